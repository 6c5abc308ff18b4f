/- How a slice of bytes that came in is opened: what it holds, and how long it can be. -/
import Derived.Test.YtadmekikdaocoaaUgUM
import Derived.Test.YtadmekikdaocoaaQTwoM
import Derived.Deep.QuietTactic
import Derived.BigQuiet
import Derived.WalkSmall
import Derived.Test.YtadmekikdaocoaaBase
import Derived.Test.YtadmekikdaocoaaEq
import Derived.ProofKit
import Derived.ChangeOld
import Derived.SizedLaws
import Derived.JoinedCond
namespace Go.Proofs.Ytadmekikdaocoaa
open Go.RowKit Go.Shelf
set_option linter.unusedVariables false
set_option maxRecDepth 100000

/-- An operation that keeps what holds of every content of a line. -/
def EvF (N i : Nat) (P : List Nat → Prop) (f : St → St) : Prop := ∀ σ : St, σ.Ok → σ.n = N → Every σ i P → Every (f σ) i P
theorem acts_every {N i : Nat} {P : List Nat → Prop} : ∀ (fs : List (St → St)) (σ : St), (∀ f ∈ fs, GoodF N f) → (∀ f ∈ fs, EvF N i P f) → σ.Ok → σ.n = N → σ.ops + fs.length ≤ 1400000000000 → Every σ i P → Every (acts fs σ) i P
  | [], σ, _, _, _, _, _, h => h
  | f :: fs, σ, hg, he, hok, hn, ho, h => by
    rw [List.length_cons] at ho
    have h1 := (hg f (by simp) σ hok hn (by omega)).1
    have e1 := h1.ops
    have h2 : Every (tick (f σ)) i P := he f (by simp) σ hok hn h
    exact acts_every fs (tick (f σ)) (fun g hg' => hg g (by simp [hg'])) (fun g hg' => he g (by simp [hg'])) h1.ok (h1.n.trans hn) (by omega) h2
/-- What the power leaves of a line. -/
theorem run_every {N i : Nat} {P : List Nat → Prop} {fs : List (St → St)} {σ s : St} (hg : ∀ f ∈ fs, GoodF N f) (he : ∀ f ∈ fs, EvF N i P f) (hok : σ.Ok) (hn : σ.n = N) (ho : σ.ops + fs.length ≤ 1400000000000) (hi : i < N) (h : Every σ i P) (hr : RunD fs σ 5 s) : P (s.line i) := by
  rcases hr with ⟨e, _⟩ | ⟨_, _, pre, f, post, rfl, hop⟩
  · cases e
  · rw [List.length_append, List.length_cons] at ho
    have hg1 : ∀ g ∈ pre, GoodF N g := fun g hg' => hg g (by simp [hg'])
    have h1 := acts_every pre σ hg1 (fun g hg' => he g (by simp [hg'])) hok hn (by omega) h
    have hl := acts_like pre σ hg1 hok hn (by omega)
    have h2 := he f (by simp) (acts pre σ) hl.ok (hl.n.trans hn) h1
    have e0 := hl.ops
    have h3 := (hg f (by simp) (acts pre σ) hl.ok (hl.n.trans hn) (by omega)).1
    have h4 : (f (acts pre σ)).n = N := h3.n.trans (hl.n.trans hn)
    rcases hop with ⟨_, e, _⟩ | ⟨af, kp, _, ⟨_, e, _⟩ | ⟨_, _, hL⟩⟩
    · cases e
    · cases e
    · exact Every.lost (P := P) hL (by show i < (f (acts pre σ)).n; omega) h2
/-- What is the same of a device that the power left. -/
theorem run_len {N : Nat} {fs : List (St → St)} {σ s : St} (hg : ∀ f ∈ fs, GoodF N f) (hok : σ.Ok) (hn : σ.n = N) (ho : σ.ops + fs.length ≤ 1400000000000) (hr : RunD fs σ 5 s) : s.n = N ∧ s.bytes.length = 64 * N ∧ (∀ j, s.past j = []) ∧ s.off = true ∧ s.arms = [] ∧ s.cnt = 0 ∧ s.ops ≤ σ.ops + fs.length ∧ s.Ok := by
  rcases hr with ⟨e, _⟩ | ⟨_, _, pre, f, post, rfl, hop⟩
  · cases e
  · rw [List.length_append, List.length_cons] at ho ⊢
    have hl := acts_like pre σ (fun g hg' => hg g (by simp [hg'])) hok hn (by omega)
    have e0 := hl.ops
    have h3 := (hg f (by simp) (acts pre σ) hl.ok (hl.n.trans hn) (by omega)).1
    have h4 : (f (acts pre σ)).n = N := h3.n.trans (hl.n.trans hn)
    have h5 : (f (acts pre σ)).ops + 1 = (acts pre σ).ops + 1 := h3.ops
    have hk := h3.ok
    rcases hop with ⟨_, e, _⟩ | ⟨af, kp, _, ⟨_, e, _⟩ | ⟨_, _, hL⟩⟩
    · cases e
    · cases e
    · have hokL : St.Ok { f (acts pre σ) with ops := (f (acts pre σ)).ops + 1, arms := [], cnt := 0 } := ⟨hk.pos, hk.max, hk.len, hk.byte, hk.out, hk.clen, hk.cbyte, hk.few, hk.flp, hk.opsm⟩
      refine ⟨hL.n.trans h4, by rw [hL.len]; show 64 * (f (acts pre σ)).n = _; rw [h4], fun j => by rw [hL.past], hL.off, hL.arms, hL.cnt, ?_, Lost.ok hokL hL⟩
      rw [hL.ops]
      show (f (acts pre σ)).ops + 1 ≤ _
      omega
theorem RunD.split {N : Nat} {xs ys : List (St → St)} {σ s : St} (hg : ∀ f ∈ xs, GoodF N f) (hok : σ.Ok) (hn : σ.n = N) (ho : σ.ops + xs.length ≤ 1400000000000) (h : RunD (xs ++ ys) σ 5 s) : RunD xs σ 5 s ∨ RunD ys (acts xs σ) 5 s := by
  have hl := acts_like xs σ hg hok hn ho
  rcases h with ⟨e, _⟩ | ⟨_, ha, pre, f, post, e, hop⟩
  · cases e
  · have ha' : (acts xs σ).arms ≠ [] := by rw [hl.arms]; exact ha
    rcases List.append_eq_append_iff.1 e with ⟨us, h1, h2⟩ | ⟨cs, h1, h2⟩
    · subst h1 h2
      exact .inr (.inr ⟨rfl, ha', us, f, post, rfl, by rw [← acts_append]; exact hop⟩)
    · cases cs with
      | nil =>
        simp at h1 h2
        subst h1 h2
        exact .inr (.inr ⟨rfl, ha', [], f, post, rfl, hop⟩)
      | cons g cs =>
        simp at h2
        obtain ⟨rfl, rfl⟩ := h2
        exact .inl (.inr ⟨rfl, ha, pre, f, cs, h1, hop⟩)
theorem evf_word {N i no : Nat} {P : List Nat → Prop} {bs : List Nat} {at_ : Nat} (hi : i < N) (hno : no / 8 < N) (hne : no / 8 ≠ i) : EvF N i P (fun s => wordA bs at_ s no) := fun σ hok hn h =>
  Every.word (bs := bs) (at_ := at_) (no := no) hok (by omega) (by omega) h (fun e => absurd e.symm hne)
theorem evf_fl {N i : Nat} {P : List Nat → Prop} (ls : List Nat) : ∀ f ∈ fls ls, EvF N i P f := by
  intro f hf
  obtain ⟨l, _, rfl⟩ := List.mem_map.1 hf
  exact fun σ _ _ h => Every.flush (i := l) h
theorem evf_fn {N i : Nat} {P : List Nat → Prop} : EvF N i P fnA := fun σ _ _ h => (Every.fence h : Every (fenceDo σ) i P)
theorem evf_rng {N i : Nat} {P : List Nat → Prop} (at_ n : Nat) : ∀ f ∈ rngF at_ n, EvF N i P f := by
  intro f hf
  rcases List.mem_append.1 hf with h | h
  · exact evf_fl _ f h
  · rw [List.mem_singleton.1 h]
    exact evf_fn
theorem mem_wordsOf {at_ n no : Nat} (h : at_ + n ≤ 4194304) (hno : no ∈ wordsOf at_ n) : at_ / 8 ≤ no ∧ no * 8 < at_ + n := by
  rw [wordsOf_eq at_ n h] at hno
  split at hno
  · cases hno
  · obtain ⟨i, hi, rfl⟩ := List.mem_map.1 hno
    have := List.mem_range.1 hi
    omega
theorem evf_wds {N i : Nat} {P : List Nat → Prop} {bs cs : List Nat} {at_ : Nat} (hi : i < N) (hN : N ≤ 65536) (hl : at_ + bs.length ≤ 64 * N) (ho : 64 * i + 64 ≤ at_ ∨ at_ + bs.length ≤ 64 * i) : ∀ f ∈ wds cs at_ (wordsOf at_ bs.length), EvF N i P f := by
  intro f hf
  obtain ⟨no, hno, rfl⟩ := List.mem_map.1 hf
  obtain ⟨h1, h2⟩ := mem_wordsOf (by omega) hno
  exact evf_word hi (by omega) (by omega)
theorem evf_recs {N i : Nat} {P : List Nat → Prop} {B : List Nat} (hi : i < N) (hN : N ≤ 65536) : ∀ (xs : List (Int × Int)) (at_ : Nat), at_ + (recsB B xs).length ≤ 64 * N → (64 * i + 64 ≤ at_ ∨ at_ + (recsB B xs).length ≤ 64 * i) → ∀ f ∈ recsF B at_ xs, EvF N i P f
  | [], at_, _, _, f, hf => by cases hf
  | x :: t, at_, hl, ho, f, hf => by
    have e : recsB B (x :: t) = recOf B x ++ recsB B t := rfl
    rw [e, List.length_append] at hl ho
    rcases List.mem_append.1 hf with h | h
    · exact evf_wds hi hN (by omega) (by omega) f h
    · exact evf_recs hi hN t _ (by omega) (by omega) f h
theorem recs_good {N : Nat} {B : List Nat} (hb : ∀ y ∈ B, y < 256) (hN : N ≤ 65536) : ∀ (xs : List (Int × Int)) (at_ : Nat), at_ + (recsB B xs).length ≤ 64 * N → ∀ f ∈ recsF B at_ xs, GoodF N f
  | [], at_, _, f, hf => by cases hf
  | x :: t, at_, hl, f, hf => by
    have e : recsB B (x :: t) = recOf B x ++ recsB B t := rfl
    rw [e, List.length_append] at hl
    rcases List.mem_append.1 hf with h | h
    · exact wds_good (rec_lt hb) (wordsOf_lt (m := N) (by omega) (by omega)) f h
    · exact recs_good hb hN t _ (by omega) f h
/-- Lines that were flushed have one content behind the Fence. -/
theorem fls_due : ∀ (ls : List Nat) (σ : St) (j : Nat), (j ∈ ls ∨ Due σ j) → Due (acts (fls ls) σ) j
  | [], σ, j, h => h.resolve_left (by simp)
  | i :: ls, σ, j, h => by
    refine fls_due ls (tick (flA σ i)) j ?_
    rcases h with h | h
    · rcases List.mem_cons.1 h with h | h
      · exact .inr (Due.flush (.inl h))
      · exact .inl h
    · exact .inr (Due.flush (.inr h))
theorem rng_one {N at_ n j : Nat} {σ : St} (hok : σ.Ok) (hn : σ.n = N) (ho : σ.ops + (rngF at_ n).length ≤ 1400000000000) (hj : j ∈ linesOf at_ n) : (acts (rngF at_ n) σ).past j = [] := by
  have hd := fls_due (linesOf at_ n) σ j (.inl hj)
  have e : (rngF at_ n).length = (fls (linesOf at_ n)).length + 1 := by unfold rngF; simp
  have hl := acts_like (N := N) (fls (linesOf at_ n)) σ (fls_good _) hok hn (by omega)
  unfold rngF
  rw [acts_append]
  exact fence_one hd (fun k hk => (hl.ok.flp _ k hk).2)
/-- Publish, where each line has one content: all of the word, or nothing. -/
theorem pub_lost {N v a : Nat} {σ s : St} (hok : σ.Ok) (hn : σ.n = N) (hE : ∀ i, i < N → Every σ i (· = σ.line i)) (ha6 : a % 64 = 0) (hal : a + 8 ≤ 64 * N) (hops : σ.ops + 1000000 ≤ 1400000000000) (hr : RunD (pubF v a) σ 5 s) : s.bytes = σ.bytes ∨ s.bytes = splice σ.bytes a (leB 8 v) := by
  have hmx := hok.max
  have p1 := pub_few (v := v) (at_ := a) (by omega)
  have hg := pub_good (N := N) (v := v) (at_ := a) hal (by omega)
  have h8 : (leB 8 v).length = 8 := leB_length 8 v
  have hbl : σ.bytes.length = 64 * N := by rw [hok.len, hn]
  have ew : wordsOf a 8 = [a / 8] := words1 (by omega) (by omega)
  have hsl : (splice σ.bytes a (leB 8 v)).length = 64 * N := (splice_len _ _ _ (by omega)).trans hbl
  obtain ⟨q1, q2, _⟩ := run_len hg hok hn (by omega) hr
  have ho : ∀ i, i < N → i ≠ a / 64 → s.line i = σ.line i := fun i hi hne => by
    refine run_every (P := fun c => c = σ.line i) hg ?_ hok hn (by omega) hi (hE i hi) hr
    intro f hf
    unfold pubF at hf
    rcases List.mem_append.1 hf with h | h
    · rw [ew] at h
      obtain ⟨no, hno, rfl⟩ := List.mem_map.1 h
      rw [List.mem_singleton.1 hno]
      exact evf_word hi (by omega) (by omega)
    · rcases List.mem_append.1 h with h | h
      · exact evf_fl _ f h
      · rw [List.mem_singleton.1 h]
        exact evf_fn
  have hll : (σ.line (a / 64)).length = 64 := line_len hok (by omega)
  have hne2 : splice (splice (σ.line (a / 64)) 0 (leB 8 v)) 0 (leB 8 v) = splice (σ.line (a / 64)) 0 (leB 8 v) := by
    simp [splice, h8]
  have hn1 : s.line (a / 64) = σ.line (a / 64) ∨ s.line (a / 64) = splice (σ.line (a / 64)) 0 (leB 8 v) := by
    refine run_every (P := fun c => c = σ.line (a / 64) ∨ c = splice (σ.line (a / 64)) 0 (leB 8 v)) hg ?_ hok hn (by omega) (by omega) ((hE (a / 64) (by omega)).mono (fun c hc => .inl hc)) hr
    intro f hf
    unfold pubF at hf
    rcases List.mem_append.1 hf with h | h
    · rw [ew] at h
      obtain ⟨no, hno, rfl⟩ := List.mem_map.1 h
      rw [List.mem_singleton.1 hno]
      intro τ hτ hτn hE2
      have e8 : a / 8 / 8 = a / 64 := by omega
      refine Every.word (bs := leB 8 v) (at_ := a) (no := a / 8) hτ (by omega) (by omega) hE2 (fun _ => .inr ?_)
      have em : max a (a / 8 * 8) = a := by omega
      rw [em, e8, ha6, Nat.sub_self, List.drop_zero, show a % 8 = 0 by omega, List.take_of_length_le (by omega)]
      rcases hE2.1 with h1 | h1
      · rw [h1]
      · rw [h1]
        exact hne2
    · rcases List.mem_append.1 h with h | h
      · exact evf_fl _ f h
      · rw [List.mem_singleton.1 h]
        exact evf_fn
  rcases hn1 with h | h
  · left
    refine bytes_of_lines q2 hbl (fun j hj => ?_)
    by_cases e : j = a / 64
    · rw [e]; exact h
    · exact ho j hj e
  · right
    refine bytes_of_lines q2 hsl (fun j hj => ?_)
    by_cases e : j = a / 64
    · rw [e]
      refine Eq.trans h ?_
      refine List.ext_getElem? fun k => ?_
      rw [splice_get (σ.line (a / 64)) _ 0 k (by omega), List.getElem?_take, if_neg (show ¬ k < 0 by omega)]
      by_cases hk : k < 64
      · rw [if_pos hk, List.getElem?_drop, splice_get σ.bytes _ a _ (by omega), if_neg (show ¬ 64 * (a / 64) + k < a by omega)]
        by_cases h2 : k < 8
        · rw [if_pos (show k < 0 + (leB 8 v).length by omega), if_pos (show 64 * (a / 64) + k < a + (leB 8 v).length by omega)]
          congr 1
          omega
        · rw [if_neg (show ¬ k < 0 + (leB 8 v).length by omega), if_neg (show ¬ 64 * (a / 64) + k < a + (leB 8 v).length by omega), line_get hk]
      · rw [if_neg hk, if_neg (show ¬ k < 0 + (leB 8 v).length by omega), List.getElem?_eq_none (by omega)]
    · refine Eq.trans (ho j hj e) ?_
      exact (other_line (at_ := a) hbl (by omega) (by omega) e).symm
/-- What a Write leaves that the power left: the lines beside the records are as they were, or all was done. -/
theorem wr_lost {a z N : Nat} {B : List Nat} {xs : List (Int × Int)} {σ s : St} (hσ : σ.Ok) (hN : σ.n = N) (hB : B = σ.bytes) (hp : ∀ j, σ.past j = []) (hx : ∀ y ∈ xs, Fine a z N y) (hroom : (recsB B xs).length ≤ z - 64) (hz : 64 ≤ z) (haz : a + z ≤ 64 * N) (ha6 : a % 64 = 0) (hops : σ.ops + 30000000 ≤ 1400000000000) (hml : xs.length ≤ 4194304) (hr : RunD (wrF B a xs) σ 5 s) :
    (∀ i, i < N → (64 * i + 64 ≤ a + 64 ∨ a + z ≤ 64 * i) → s.line i = σ.line i) ∨ s.bytes = splice (splice B (a + 64) (recsB B xs)) a (leB 8 xs.length) := by
  have hmx := hσ.max
  have hB64 : B.length = 64 * N := by rw [hB, hσ.len, hN]
  have hb256 : ∀ y ∈ B, y < 256 := by rw [hB]; exact hσ.byte
  obtain ⟨R, hf⟩ := Recs.whole hσ hN hB hx hroom hz haz (by omega)
  have hro := R.like.ops
  have hrn := R.like.n
  have g0 := recs_good (N := N) (B := B) hb256 (by omega) xs (a + 64) (by omega)
  have r1 := rng_few (at_ := a + 64) (n := (recsB B xs).length) (by omega)
  have g1 := rng_good (N := N) (a + 64) (recsB B xs).length
  have l1 := acts_like (N := N) (rngF (a + 64) (recsB B xs).length) (acts (recsF B (a + 64) xs) σ) g1 R.like.ok (hrn.trans hN) (by omega)
  have o1 := l1.ops
  have n1 := l1.n
  have b1 := rng_bytes (a + 64) (recsB B xs).length (acts (recsF B (a + 64) xs) σ)
  have hE0 : ∀ i, Every σ i (· = σ.line i) := fun i => ⟨rfl, fun c hc => by rw [hp i] at hc; cases hc⟩
  have hE1 : ∀ i, i < N → (64 * i + 64 ≤ a + 64 ∨ a + 64 + (recsB B xs).length ≤ 64 * i) → Every (acts (recsF B (a + 64) xs) σ) i (· = σ.line i) := fun i hi ho => acts_every _ σ g0 (evf_recs hi (by omega) xs (a + 64) (by omega) (by omega)) hσ hN (by omega) (hE0 i)
  have hE2 : ∀ i, i < N → (64 * i + 64 ≤ a + 64 ∨ a + 64 + (recsB B xs).length ≤ 64 * i) → Every (acts (rngF (a + 64) (recsB B xs).length) (acts (recsF B (a + 64) xs) σ)) i (· = σ.line i) := fun i hi ho => acts_every _ _ g1 (evf_rng _ _) R.like.ok (hrn.trans hN) (by omega) (hE1 i hi ho)
  unfold wrF at hr
  rcases RunD.split g0 hσ hN (by omega) hr with h | h
  · exact .inl fun i hi ho => run_every (P := fun c => c = σ.line i) g0 (evf_recs hi (by omega) xs (a + 64) (by omega) (by omega)) hσ hN (by omega) hi (hE0 i) h
  · rcases RunD.split g1 R.like.ok (hrn.trans hN) (by omega) h with h | h
    · exact .inl fun i hi ho => run_every (P := fun c => c = σ.line i) g1 (evf_rng _ _) R.like.ok (hrn.trans hN) (by omega) hi (hE1 i hi (by omega)) h
    · have hall : ∀ i, i < N → Every (acts (rngF (a + 64) (recsB B xs).length) (acts (recsF B (a + 64) xs) σ)) i (· = (acts (rngF (a + 64) (recsB B xs).length) (acts (recsF B (a + 64) xs) σ)).line i) := fun i hi => by
        by_cases ho : 64 * i + 64 ≤ a + 64 ∨ a + 64 + (recsB B xs).length ≤ 64 * i
        · have h2 := hE2 i hi ho
          refine ⟨rfl, fun c hc => ?_⟩
          rw [h2.2 c hc]
          exact h2.1.symm
        · refine ⟨rfl, fun c hc => ?_⟩
          have hm : i ∈ linesOf (a + 64) (recsB B xs).length := by
            have := mem_linesOf (at_ := a + 64) (n := (recsB B xs).length) (i := 64 * i - (a + 64)) (by omega) (by omega)
            rwa [show (a + 64 + (64 * i - (a + 64))) / 64 = i by omega] at this
          rw [rng_one R.like.ok (hrn.trans hN) (by omega) hm] at hc
          cases hc
      rcases pub_lost l1.ok (n1.trans (hrn.trans hN)) hall ha6 (by omega) (by omega) h with e | e
      · left
        intro i hi ho
        have h3 : s.line i = (acts (rngF (a + 64) (recsB B xs).length) (acts (recsF B (a + 64) xs) σ)).line i := by unfold St.line; rw [e]
        rw [h3]
        exact (hE2 i hi (by omega)).1
      · right
        rw [e, b1, R.bytes]
end Go.Proofs.Ytadmekikdaocoaa
namespace Go.Proofs.Ytadmekikdaocoaa
open Go.RowKit Go.Shelf
set_option linter.unusedVariables false
set_option maxRecDepth 100000

/-- A log at block gl on the device at block b, all of whose blocks lie behind B0; no loss waits. -/
structure Lg (B0 : Nat) (w : World) (gl b a z : Nat) (L : Lay) (σ : St) : Prop where
  dv : Dv w b L σ
  log : LogL w gl b a z
  calm : σ.arms = []
  far : ∀ k, Foot b L σ k → B0 ≤ k
  big : B0 ≤ w.heap.size
/-- What a step keeps: blocks of other types, and all that lay ahead of B0. -/
structure Kp8 (B0 : Nat) (w w' : World) : Prop where
  below : Below B0 w w'
  keep : ∀ (k : Nat) (c : Array Value) (t : TypeId) (f : Nat × Nat), w.heap[k]? = some (.cells c t f) → NDt t → w'.heap[k]? = some (.cells c t f)
section
variable {B0 gl b a z : Nat} {w w' w'' : World} {L : Lay} {σ s : St}
theorem Kp8.of_below (h : Below w.heap.size w w') (hB : B0 ≤ w.heap.size) : Kp8 B0 w w' :=
  ⟨⟨h.os, h.tape, h.output, h.size, fun k hk => h.block k (by omega)⟩, fun k c t f hc _ => (h.block k (lt_of_heap hc)).trans hc⟩
theorem Kp8.trans (h : Kp8 B0 w w') (k : Kp8 B0 w' w'') : Kp8 B0 w w'' :=
  ⟨⟨k.below.os.trans h.below.os, k.below.tape.trans h.below.tape, k.below.output.trans h.below.output, Nat.le_trans h.below.size k.below.size, fun i hi => (k.below.block i hi).trans (h.below.block i hi)⟩, fun i c t f hc ht => k.keep i c t f (h.keep i c t f hc ht) ht⟩
theorem Kp8.size (h : Kp8 B0 w w') : w.heap.size ≤ w'.heap.size := h.below.size
theorem Kp8.of_atd {m : Nat} (ha : Atd w b L σ w' s m) (h : Lg B0 w gl b a z L σ) : Kp8 B0 w w' :=
  ⟨⟨ha.1.1, ha.1.2.1, ha.1.2.2.1, ha.1.2.2.2.1, fun k hk => ha.1.block (by have := h.big; omega) (fun hf => by have := h.far k hf; omega)⟩, fun k c t f hc ht => ha.kept h.dv.dev hc ht⟩
theorem Lg.below (h : Lg B0 w gl b a z L σ) (hB : Below w.heap.size w w') : Lg B0 w' gl b a z L σ := ⟨h.dv.below hB, h.log.below hB, h.calm, h.far, Nat.le_trans h.big hB.size⟩
/-- Which blocks a step may change, and which are the device's then. -/
structure Stp (w : World) (b : Nat) (L : Lay) (σ : St) (w' : World) (L' : Lay) (s : St) : Prop where
  gr : Gr (Foot b L σ) w w'
  ft : ∀ k, Foot b L' s k → Foot b L σ k ∨ w.heap.size ≤ k
theorem Stp.out {k : Nat} {L' : Lay} (h : Stp w b L σ w' L' s) (hk : k < w.heap.size) (hn : ¬ Foot b L σ k) : w'.heap[k]? = w.heap[k]? ∧ ¬ Foot b L' s k :=
  ⟨h.gr.block hk hn, fun hf => (h.ft k hf).elim hn (by omega)⟩
theorem Lg.went {m : Nat} (h : Lg B0 w gl b a z L σ) (ha : Atd w b L σ w' s m) (hl : LikeG σ s m) (hlt : σ.ops + m < 1400000000000) : ∃ L', Lg B0 w' gl b a z L' s ∧ Stp w b L σ w' L' s := by
  obtain ⟨L', hd, hg, hf, hN⟩ := h.dv.went ha hl hlt
  exact ⟨L', ⟨hd, h.log.atd h.dv.dev ha, hl.arms.trans h.calm, fun k hk => (hf k hk).elim (h.far k) (fun hk => Nat.le_trans h.big hk), Nat.le_trans h.big ha.size⟩, hg, hf⟩
/-- Where a log may lie. -/
structure At8 (a z N : Nat) : Prop where
  a8 : a % 8 = 0
  a64 : 64 ≤ a
  z64 : 64 ≤ z
  az : a + z ≤ 64 * N
theorem lg_write {m cap : Nat} {ea : Option Addr} {xs : List (Int × Int)} (h : Lg B0 w gl b a z L σ) (hp : At8 a z σ.n) (hops : σ.ops + 30000000 ≤ 1400000000000) (hnum : leV ((σ.bytes.drop a).take 8) = 0) (he : SlE w ea xs) (hm : xs.length = m) (hm1 : 1 ≤ m) (hml : m ≤ 4194304) (hok : (needX a z σ.n xs).2 = 0) :
    Calls Try.prog 9 #[.pointer (some ⟨gl, 0, none⟩), .slice ea m cap] w fun e w' => e = .returned (.int .i64 0) ∧ ∃ L' s, Lg B0 w' gl b a z L' s ∧ WrS a z σ.n σ.bytes xs σ s ∧ Kp8 B0 w w' ∧ Stp w b L σ w' L' s := by
  have hmx := h.dv.ok.max
  obtain ⟨hfine, hnd, hroom⟩ := need_good h.dv.ok.len hp.a64 hp.z64 hp.az hmx hok
  have W := wr_after h.dv.ok rfl rfl hfine hroom hp.z64 hp.az hops (by omega)
  refine (lwrite_ok h.log h.dv hp.a8 hp.a64 hp.z64 hp.az hops hnum he hm hm1 hml hok).mono ?_
  rintro e w' ⟨c, s, rfl, hr, ha⟩
  obtain ⟨rfl, rfl⟩ := hr.calm h.calm
  have hf := W.few
  obtain ⟨L', hL, hS⟩ := h.went ha W.like (by omega)
  exact ⟨rfl, L', _, hL, W, Kp8.of_atd ha h, hS⟩
theorem lg_rollback (rs : List (Nat × List Nat)) (h : Lg B0 w gl b a z L σ) (hp : At8 a z σ.n) (hops : σ.ops + 50000000 ≤ 1400000000000) (hnum : leV ((σ.bytes.drop a).take 8) = rs.length) (hrs : RecsAt a z σ.n σ.bytes (a + 64) rs) (hk : rs.length ≤ 4194304) (hne : 1 ≤ rs.length) :
    Calls Try.prog 19 #[.pointer (some ⟨gl, 0, none⟩)] w fun e w' => e = .returned (.tuple #[.int .i64 (rs.length : Int), .int .i64 0]) ∧ ∃ L' s, Lg B0 w' gl b a z L' s ∧ RoS a rs σ s ∧ Kp8 B0 w w' ∧ Stp w b L σ w' L' s := by
  have W := ro_after h.dv.ok rfl hp.a64 hp.z64 hp.az hrs hops
  refine (lrollback_any rs h.log h.dv hp.a8 hp.a64 hp.z64 hp.az (by omega) hnum hrs hk hne).mono ?_
  rintro e w' ⟨c, s, rfl, hr, ha⟩
  obtain ⟨rfl, rfl⟩ := hr.calm h.calm
  have hf := W.few
  obtain ⟨L', hL, hS⟩ := h.went ha W.like (by omega)
  exact ⟨rfl, L', _, hL, W, Kp8.of_atd ha h, hS⟩
/-- A store of few bytes. -/
theorem lg_store {ad : Addr} {bs : List Nat} (at_ cap : Nat) (h : Lg B0 w gl b a z L σ) (hops : σ.ops + 30000000 ≤ 1400000000000) (hsl : Sl w (some ad) bs) (hb : ∀ x ∈ bs, x < 256) (hcap : bs.length ≤ cap) (hlen : at_ + bs.length ≤ 64 * σ.n) {c : Array Value} {t : TypeId} {f : Nat × Nat} (had : w.heap[ad.block]? = some (.cells c t f)) (ht : NDt t) :
    Calls Try.prog 23 #[.pointer (some ⟨b, 0, none⟩), .int .i64 (at_ : Int), .slice (some ad) bs.length cap] w fun e w' => e = .returned (.int .i64 0) ∧ ∃ L' s, Lg B0 w' gl b a z L' s ∧ LikeG σ s (wordsOf at_ bs.length).length ∧ s.bytes = splice σ.bytes at_ bs ∧ Kp8 B0 w w' ∧ Stp w b L σ w' L' s := by
  have hmx := h.dv.ok.max
  have hwl := wordsOf_few (at_ := at_) (n := bs.length) (by omega)
  have hl := acts_like (N := σ.n) (wds bs at_ (wordsOf at_ bs.length)) σ (wds_good hb (wordsOf_lt (m := σ.n) (by omega) (by omega))) h.dv.ok rfl (by rw [wds_len]; omega)
  rw [wds_len] at hl
  refine (dv_store at_ cap h.dv (by omega) hsl hcap hlen (fun ad' e => by cases e; exact ⟨lt_of_heap had, foot_nd h.dv.dev had ht⟩)).mono ?_
  rintro e w' ⟨c, s, rfl, hr, ha⟩
  obtain ⟨rfl, rfl⟩ := hr.calm h.calm
  obtain ⟨L', hL, hS⟩ := h.went ha hl (by omega)
  refine ⟨rfl, L', _, hL, hl, ?_, Kp8.of_atd ha h, hS⟩
  rw [wds_acts, writeG_bytes hb h.dv.ok hlen (by omega)]
end
end Go.Proofs.Ytadmekikdaocoaa
namespace Go.Proofs.Ytadmekikdaocoaa
open Go.RowKit Go.Shelf
set_option linter.unusedVariables false
set_option maxRecDepth 100000

theorem imgZ_len : (imgZ 8).length = 1024 := by simp [imgZ]
theorem imgZ_lt : ∀ x ∈ imgZ 8, x < 256 := by
  intro x hx
  unfold imgZ at hx
  obtain ⟨q, _, rfl⟩ := List.mem_map.1 hx
  unfold zb
  split <;> omega
theorem imgZ_get {q : Nat} (h : q < 1024) : (imgZ 8)[q]? = some (zb 8 q) := by
  unfold imgZ
  rw [List.getElem?_map, List.getElem?_range h]
  rfl
theorem imgZ_num : leV (((imgZ 8).drop 128).take 8) = 0 := by
  have h : ((imgZ 8).drop 128).take 8 = leB 8 0 := by
    refine List.ext_getElem? fun i => ?_
    rw [List.getElem?_take]
    split
    · rw [List.getElem?_drop, imgZ_get (by omega), leB_get 8 0 i (by omega)]
      unfold zb
      rw [if_pos (by omega)]
      simp
    · rw [List.getElem?_eq_none (by rw [leB_length]; omega)]
  rw [h]
  exact leV_of (by omega)
theorem imgZ_olds : ((imgZ 8).drop 64).take 4 = [64, 65, 66, 67] := by
  refine List.ext_getElem? fun i => ?_
  rw [List.getElem?_take]
  split
  · rename_i h
    rw [List.getElem?_drop, imgZ_get (by omega)]
    unfold zb
    rw [if_neg (by omega)]
    match i, h with
    | 0, _ => rfl
    | 1, _ => rfl
    | 2, _ => rfl
    | 3, _ => rfl
  · rw [List.getElem?_eq_none (by simp; omega)]
theorem lg_made {w W : World} {b gl z : Nat} {L : Lay} (hd : DevL W b L (fromD 16 (imgZ 8))) (hN : L.N = 0) (hf : ∀ k, Foot b L (fromD 16 (imgZ 8)) k → w.heap.size ≤ k) (hl : LogL W gl b 128 z) (hB : Below w.heap.size w W) : ∃ σ, Lg w.heap.size W gl b 128 z L σ ∧ σ.n = 16 ∧ σ.ops = 0 ∧ σ.bytes = imgZ 8 :=
  ⟨fromD 16 (imgZ 8), ⟨⟨hd, fromD_ok (by omega) (by omega) imgZ_len imgZ_lt, rfl, by rw [hN]; exact Nat.zero_le _, ⟨.inl rfl, by show 0 < _; omega⟩, Nat.le_refl _⟩, hl, rfl, hf, hB.size⟩, rfl, rfl, rfl⟩
section
variable {B0 gl b : Nat} {W : World} {L : Lay} {σ : St}
theorem aw_write (h : Lg B0 W gl b 128 192 L σ) (hn : σ.n = 16) (ho : σ.ops = 0) (hb : σ.bytes = imgZ 8) :
    Calls Try.prog 9 #[.pointer (some ⟨gl, 0, none⟩), .slice (some ⟨W.heap.size, 0, none⟩) 1 1] (W.alloc (.cells #[.int .i64 64, .int .i64 4] 58)) fun e w' => e = .returned (.int .i64 0) ∧ ∃ L' s, Lg B0 w' gl b 128 192 L' s ∧ s.n = 16 ∧ s.ops ≤ 6000000 ∧ leV ((s.bytes.drop 128).take 8) = 1 ∧ RecsAt 128 192 16 s.bytes 192 [(64, [64, 65, 66, 67])] ∧ Kp8 B0 W w' := by
  have hA : Below W.heap.size W (W.alloc (.cells #[.int .i64 64, .int .i64 4] 58)) := (Below.refl _ W).alloc (Nat.le_refl _) _
  have hm : SlE (W.alloc (.cells #[.int .i64 64, .int .i64 4] 58)) (some ⟨W.heap.size, 0, none⟩) [(64, 4)] := by
    refine ⟨by decide, .inr ⟨W.heap.size, 0, _, rfl, heap_alloc_new _ _, ?_⟩⟩
    intro i x l hi
    match i, hi with
    | 0, hi => simp at hi; obtain ⟨rfl, rfl⟩ := hi; exact ⟨rfl, rfl⟩
    | n + 1, hi => simp at hi
  refine (lg_write (h.below hA) (by rw [hn]; exact ⟨by omega, by omega, by omega, by omega⟩) (by omega) (by rw [hb]; exact imgZ_num) hm rfl (by decide) (by decide) (by rw [hn]; decide)).mono ?_
  rintro e w' ⟨rfl, L', s, hL, hW, hK, _⟩
  have h1 := hW.like.n
  have h2 := hW.like.ops
  have h3 := hW.few
  have h4 := hW.num
  have h5 := hW.recs
  rw [hn, hb] at h5
  refine ⟨rfl, L', s, hL, by omega, by omega, h4, ?_, (Kp8.of_below hA h.big).trans hK⟩
  have e : recL (imgZ 8) [(64, 4)] = [(64, [64, 65, 66, 67])] := by
    show [((64 : Int).toNat, ((imgZ 8).drop 64).take 4)] = _
    rw [imgZ_olds]
    rfl
  rw [e] at h5
  exact h5
theorem aw_store (h : Lg B0 W gl b 128 192 L σ) (hn : σ.n = 16) (ho : σ.ops ≤ 6000000) (h1 : leV ((σ.bytes.drop 128).take 8) = 1) (h2 : RecsAt 128 192 16 σ.bytes 192 [(64, [64, 65, 66, 67])]) :
    Calls Try.prog 23 #[.pointer (some ⟨b, 0, none⟩), .int .i64 64, .slice (some ⟨W.heap.size, 0, none⟩) 4 4] (W.alloc (.cells #[.int .u8 9, .int .u8 9, .int .u8 9, .int .u8 9] 5)) fun e w' => e = .returned (.int .i64 0) ∧ ∃ L' s, Lg B0 w' gl b 128 192 L' s ∧ s.n = 16 ∧ s.ops ≤ 7000000 ∧ leV ((s.bytes.drop 128).take 8) = 1 ∧ RecsAt 128 192 16 s.bytes 192 [(64, [64, 65, 66, 67])] ∧ Kp8 B0 W w' := by
  have hA : Below W.heap.size W (W.alloc (.cells #[.int .u8 9, .int .u8 9, .int .u8 9, .int .u8 9] 5)) := (Below.refl _ W).alloc (Nat.le_refl _) _
  have hO : OwnB (W.alloc (.cells #[.int .u8 9, .int .u8 9, .int .u8 9, .int .u8 9] 5)) W.heap.size [9, 9, 9, 9] := heap_alloc_new _ _
  refine (lg_store (bs := [9, 9, 9, 9]) 64 4 (h.below hA) (by omega) (hO.sl (by decide)) (by decide) (by decide) (by rw [hn]; decide) hO byte_nd).mono ?_
  rintro e w' ⟨rfl, L', s, hL, hl, hb, hK, _⟩
  have hwl := wordsOf_few (at_ := 64) (n := 4) (by omega)
  have e1 := hl.n
  have e2 := hl.ops
  have e3 : ([9, 9, 9, 9] : List Nat).length = 4 := rfl
  rw [e3] at e2
  have hlen : σ.bytes.length = 1024 := by rw [h.dv.ok.len, hn]
  refine ⟨rfl, L', s, hL, by omega, by omega, ?_, ?_, (Kp8.of_below hA h.big).trans hK⟩
  · rw [hb, splice_out (by rw [e3]; omega) (by rw [e3]; omega)]
    exact h1
  · refine RecsAt.out _ _ (fun p n hp hn => ?_) h2
    rw [hb]
    exact splice_out (by rw [e3]; omega) (by rw [e3]; omega)
theorem aw_rollback (h : Lg B0 W gl b 128 192 L σ) (hn : σ.n = 16) (ho : σ.ops ≤ 7000000) (h1 : leV ((σ.bytes.drop 128).take 8) = 1) (h2 : RecsAt 128 192 16 σ.bytes 192 [(64, [64, 65, 66, 67])]) :
    Calls Try.prog 19 #[.pointer (some ⟨gl, 0, none⟩)] W fun e w' => e = .returned (.tuple #[.int .i64 1, .int .i64 0]) ∧ ∃ L' s, Lg B0 w' gl b 128 192 L' s ∧ s.n = 16 ∧ s.ops ≤ 30000000 ∧ leV ((s.bytes.drop 128).take 8) = 0 ∧ (s.bytes.drop 64).take 4 = [64, 65, 66, 67] ∧ Kp8 B0 W w' := by
  refine (lg_rollback [(64, [64, 65, 66, 67])] h (by rw [hn]; exact ⟨by omega, by omega, by omega, by omega⟩) (by omega) h1 (by rw [hn]; exact h2) (by decide) (by decide)).mono ?_
  rintro e w' ⟨rfl, L', s, hL, hW, hK, _⟩
  have e1 := hW.like.n
  have e2 := hW.like.ops
  have e3 := hW.few
  have e4 : ([64, 65, 66, 67] : List Nat).length = 4 := rfl
  have e5 : (leB 8 0).length = 8 := leB_length 8 0
  have hlen : σ.bytes.length = 1024 := by rw [h.dv.ok.len, hn]
  have e6 : (splice σ.bytes 64 [64, 65, 66, 67]).length = 1024 := (splice_len _ _ _ (by rw [e4]; omega)).trans hlen
  refine ⟨rfl, L', s, hL, by omega, by omega, hW.num, ?_, hK⟩
  have e7 : s.bytes = splice (splice σ.bytes 64 [64, 65, 66, 67]) 128 (leB 8 0) := hW.bytes
  rw [e7, splice_out (by omega) (by omega)]
  have := splice_at (B := σ.bytes) (c := [64, 65, 66, 67]) (at_ := 64) (by rw [e4]; omega)
  rw [e4] at this
  exact this
theorem aw_records (h : Lg B0 W gl b 128 192 L σ) (hn : σ.n = 16) (h1 : leV ((σ.bytes.drop 128).take 8) = 1) (h2 : RecsAt 128 192 16 σ.bytes 192 [(64, [64, 65, 66, 67])]) :
    Calls Try.prog 11 #[.pointer (some ⟨gl, 0, none⟩)] W fun e w' => ∃ gr cap cur, e = .returned (.tuple #[.slice (some ⟨gr, 0, none⟩) 1 cap, .int .i64 0]) ∧ w'.heap[gr]? = some (.cells cur 63 (0, 0)) ∧ cur[0]? = some (.int .i64 64) ∧ Below W.heap.size W w' := by
  refine (lrecords_ok [(64, [64, 65, 66, 67])] h.log h.dv (by omega) (by omega) (by rw [hn]; omega) h1 (by rw [hn]; exact h2) (by decide)).mono ?_
  rintro e w' ⟨v, Rs, rfl, hrow, hB⟩
  obtain ⟨gr, cap, cur, rfl, hg, _, hc⟩ := hrow.slice (by decide)
  have hl := hrow.len
  obtain ⟨R, rfl⟩ : ∃ R, Rs = [R] := by
    match Rs, hl with
    | [R], _ => exact ⟨R, rfl⟩
  have := hc 0 ((64, [64, 65, 66, 67]), R) rfl
  exact ⟨gr, cap, cur, rfl, hg, this.1, hB⟩
end
end Go.Proofs.Ytadmekikdaocoaa
namespace Go.Proofs.Ytadmekikdaocoaa
open Go.RowKit Go.Shelf
set_option linter.unusedVariables false
set_option maxRecDepth 100000

theorem neq_devN (a : Addr) (w : World) : (binOp .neq 28 (.pointer none) (.pointer (some a))).run Try.prog w = .ok (.bool true) w := by
  have h : ∀ d : Nat, (Op.equalIn (d + 1) 28 (.pointer none) (.pointer (some a))).run Try.prog w = .ok false w := fun d => by
    simp [Op.equalIn, run_underlying (show Try.prog.underlying 28 = some (.pointer 73) by kernel_rfl)]
  simp only [binOp]
  simp [Op.equal, Op.maxDepth, h 9999]
/-- What is no device: nil, or one that no call made. -/
def NoV (w : World) (v : Value) : Prop := v = .pointer none ∨ ∃ g c, v = .pointer (some ⟨g, 0, none⟩) ∧ w.heap[g]? = some (.cells c 73 (0, 0)) ∧ c[0]? = some (.pointer none)
theorem nv_none {w : World} {v : Value} (h : NoV w v) : Calls Try.prog 27 #[v] w fun e w' => e = .returned (.bool true) ∧ w' = w := by
  rcases h with rfl | ⟨g, c, rfl, hg, hc⟩
  · go_enter Try.func27, Try.ntmps27
    go_wp2
    go_ret
    exact ⟨rfl, rfl⟩
  · have c0 : w.cell? ⟨g, 0, none⟩ = some (.pointer none) := (cell8 hg 0).trans hc
    have hq := neq_devN ⟨g, 0, none⟩ w
    clear hg hc
    go_enter Try.func27, Try.ntmps27
    go_wp2
    go_ret
    exact ⟨rfl, rfl⟩
theorem nv_size {w : World} {v : Value} (h : NoV w v) : Calls Try.prog 28 #[v] w fun e w' => e = .returned (.int .i64 0) ∧ w' = w := by
  have KN := hide (nv_none h)
  rcases h with rfl | ⟨g, c, rfl, hg, hc⟩ <;>
  · go_enter Try.func28, Try.ntmps28
    go_wp2_with (go_at_call 27; refine (KN.out).mono ?_; rintro e w' ⟨rfl, hw⟩; obtain rfl := hw.symm)
    go_ret
    exact ⟨rfl, rfl⟩
theorem nv_open {w : World} {v : Value} (h : NoV w v) (a z : Int) : Calls Try.prog 26 #[v, .int .i64 a, .int .i64 z] w fun e w' => e = .returned (.tuple #[.pointer none, .int .i64 1]) ∧ w' = w := by
  have KN := hide (nv_size h)
  rcases h with rfl | ⟨g, c, rfl, hg, hc⟩ <;>
  · go_enter Try.func26, Try.ntmps26
    go_wp2_with (go_at_call 28; refine (KN.out).mono ?_; rintro e w' ⟨rfl, hw⟩; obtain rfl := hw.symm)
    go_ret2
    exact ⟨rfl, rfl⟩
theorem aw_eq {W : World} {R : Nat} (h : OwnB W R [64, 65, 66, 67]) : Calls Try.prog 22 #[.slice (some ⟨R, 0, none⟩) 4 4, .slice (some ⟨W.heap.size, 0, none⟩) 4 4] (W.alloc (.cells #[.int .u8 64, .int .u8 65, .int .u8 66, .int .u8 67] 5)) fun e w' => e = .returned (.bool true) ∧ Below W.heap.size W w' := by
  have hA : Below W.heap.size W (W.alloc (.cells #[.int .u8 64, .int .u8 65, .int .u8 66, .int .u8 67] 5)) := (Below.refl _ W).alloc (Nat.le_refl _) _
  have h1 : OwnB (W.alloc (.cells #[.int .u8 64, .int .u8 65, .int .u8 66, .int .u8 67] 5)) R [64, 65, 66, 67] := h.below hA h.lt
  have h2 : OwnB (W.alloc (.cells #[.int .u8 64, .int .u8 65, .int .u8 66, .int .u8 67] 5)) W.heap.size [64, 65, 66, 67] := heap_alloc_new _ _
  refine (eqBytes_any (some ⟨R, 0, none⟩) (some ⟨W.heap.size, 0, none⟩) 4 4 [64, 65, 66, 67] [64, 65, 66, 67] _ (h1.sl (by decide)) (h2.sl (by decide)) (by decide)).mono ?_
  rintro e w' ⟨rfl, n, rfl⟩
  exact ⟨rfl, below_drewN hA n⟩
set_option maxHeartbeats 2000000 in
theorem uawake_any (w : World) : Calls Try.prog 5 #[] w fun e w' => e = .returned (.bool true) ∧ Below w.heap.size w w' := by
  have KM := hide (umade_any 192 w (by omega) (by omega) (by omega))
  have M1 := hide trivial
  have M2 := hide trivial
  go_enter Try.func5, Try.ntmps5
  go_wp2_with (first
    | (go_at_call 6; refine (KM.out).mono ?_; rintro e W1 ⟨b, L, gl, rfl, hd, hN, hf, hl, hB⟩; obtain ⟨σ, hlg, hn, ho, hby⟩ := lg_made hd hN hf hl hB; have HL := hide hlg; have HP := hide (And.intro hn (And.intro ho hby)); have HB := hide hB; clear hd hN hf hl hlg hn ho hby hB)
    | (go_at_call 9; clear M1; refine (aw_write HL.out HP.out.1 HP.out.2.1 HP.out.2.2).mono ?_; rintro e W2 ⟨rfl, L1, s1, hl1, g1, g2, g3, g4, hk1⟩; have HL1 := hide hl1; have HP1 := hide (And.intro g1 (And.intro g2 (And.intro g3 g4))); have HK1 := hide hk1; clear hl1 g1 g2 g3 g4 hk1)
    | (go_at_call 9; refine (lwrite_state (HL1.out).log (HL1.out).dv (by omega) (by rw [HP1.out.1]; omega) (by rw [HP1.out.2.2.1]; omega)).mono ?_; rintro e W3 ⟨rfl, hb3⟩; have HL2 := hide (HL1.out.below hb3); have HK2 := hide (HK1.out.trans (Kp8.of_below hb3 HL1.out.big)); clear hb3)
    | (go_at_call 23; refine (aw_store HL2.out HP1.out.1 HP1.out.2.1 HP1.out.2.2.1 HP1.out.2.2.2).mono ?_; rintro e W4 ⟨rfl, L3, s3, hl3, g1, g2, g3, g4, hk3⟩; have HL3 := hide hl3; have HP3 := hide (And.intro g1 (And.intro g2 (And.intro g3 g4))); have HK3 := hide (HK2.out.trans hk3); clear hl3 g1 g2 g3 g4 hk3)
    | (go_at_call 11; refine (aw_records HL3.out HP3.out.1 HP3.out.2.2.1 HP3.out.2.2.2).mono ?_; rintro e W5 ⟨gr, cap, cur, rfl, hgr, hcur, hb5⟩; have HL4 := hide (HL3.out.below hb5); have HK4 := hide (HK3.out.trans (Kp8.of_below hb5 HL3.out.big)); have HR := hide hgr; have HC := hide hcur; clear hb5 hgr hcur)
    | (go_at_call 19; clear M2; refine (aw_rollback HL4.out HP3.out.1 HP3.out.2.1 HP3.out.2.2.1 HP3.out.2.2.2).mono ?_; rintro e W6 ⟨rfl, L5, s5, hl5, g1, g2, g3, g4, hk5⟩; have HL5 := hide hl5; have HP5 := hide (And.intro g1 (And.intro g2 (And.intro g3 g4))); have HK5 := hide (HK4.out.trans hk5); have HR5 := hide (hk5.keep _ _ _ _ HR.out rec_nd); clear hl5 g1 g2 g3 g4 hk5)
    | (go_at_call 24; refine (dv_load (at_ := 64) (n := 4) (HL5.out).dv (by rw [HP5.out.1]; omega)).mono ?_; rintro e W7 ⟨R, rfl, hR, hO, hb7⟩; rw [HP5.out.2.2.2] at hO; have HL6 := hide (HL5.out.below hb7); have HK6 := hide (HK5.out.trans (Kp8.of_below hb7 HL5.out.big)); have HR6 := hide ((hb7.block _ (lt_of_heap HR5.out)).trans HR5.out); have HO := hide hO; clear hb7 hR hO)
    | (go_at_call 19; refine (lrollback_none (HL6.out).log (HL6.out).dv (by omega) (by omega) (by rw [HP5.out.1]; omega) HP5.out.2.2.1).mono ?_; rintro e W8 ⟨rfl, hb8⟩; have HK7 := hide (HK6.out.trans (Kp8.of_below hb8 HL6.out.big)); have HO7 := hide (HO.out.below hb8 HO.out.lt); have cc := (cell8 ((hb8.block _ (lt_of_heap HR6.out)).trans HR6.out) 0).trans HC.out; clear hb8)
    | (go_at_call 22; refine (aw_eq HO7.out).mono ?_; rintro e W9 ⟨rfl, hb9⟩; have HB9 := hide hb9; clear hb9))
  go_ret
  exact ⟨rfl, bseq (HB.out.trans HK7.out.below) HB9.out⟩
end Go.Proofs.Ytadmekikdaocoaa
namespace Go.Proofs.Ytadmekikdaocoaa
open Go.RowKit Go.Shelf
set_option linter.unusedVariables false
set_option maxRecDepth 100000

theorem uwithin_any (w : World) (i n : Int) (hn : 0 < n) (hn' : n ≤ 4611686018427387904) (hi : -9223372036854775808 ≤ i) (hi' : i ≤ 9223372036854775807) : Calls Try.prog 21 #[.int .i64 i, .int .i64 n] w fun e w' => e = .returned (.int .i64 (i % n)) ∧ w' = w := by
  obtain ⟨h1, h2, h3⟩ := within_eq i n hn
  have hn0 : ¬ n = 0 := by omega
  obtain ⟨t, ht⟩ : ∃ t, i.tmod n = t := ⟨_, rfl⟩
  rw [ht] at h1 h2 h3
  by_cases h : t < 0
  · rw [if_pos h] at h1
    rw [← h1]
    clear h1
    go_enter Try.func21, Try.ntmps21
    go_wp2
    go_ret
    exact ⟨rfl, rfl⟩
  · rw [if_neg h] at h1
    rw [← h1]
    clear h1
    go_enter Try.func21, Try.ntmps21
    go_wp2
    go_ret
    exact ⟨rfl, rfl⟩
/-- The lengths. -/
def zsR (ls : List Int) (i : Nat) : List Int := (ls.take i).map (fun x => 1 + x % 90)
theorem zsR_succ {ls : List Int} {i : Nat} {x : Int} (h : ls[i]? = some x) : zsR ls (i + 1) = zsR ls i ++ [1 + x % 90] := by
  unfold zsR
  rw [List.take_add_one, h]
  simp
theorem zsR_mem {ls : List Int} {i : Nat} : ∀ z ∈ zsR ls i, 1 ≤ z ∧ z ≤ 90 := by
  intro z hz
  unfold zsR at hz
  obtain ⟨x, _, rfl⟩ := List.mem_map.1 hz
  omega
theorem zsR_len {ls : List Int} {i : Nat} (h : i ≤ ls.length) : (zsR ls i).length = i := by
  unfold zsR
  rw [List.length_map, List.length_take]
  omega
/-- The extents. -/
def exU (zs : List Int) : List (Int × Int) := zs.map (fun z => (600, z))
theorem exU_len (zs : List Int) : (exU zs).length = zs.length := by simp [exU]
theorem needV_good : ∀ (zs : List Int) (s : Int), (∀ l ∈ zs, 1 ≤ l ∧ l ≤ 90) → 0 ≤ s → s + 200 * (zs.length : Int) ≤ 1000000000 → (needV s zs).2 = 0
  | [], s, _, _, _ => rfl
  | l :: t, s, h, h0, hs => by
    obtain ⟨h1, h2⟩ := h l (by simp)
    have hr := roundV_pad h1 (by omega)
    have hp : padN l.toNat < 8 := by unfold padN; omega
    rw [List.length_cons] at hs
    unfold needV
    rw [hr, if_neg (by
      rintro (h | h | h)
      · omega
      · exact h rfl
      · simp only at h; omega)]
    exact needV_good t _ (fun y hy => h y (by simp [hy])) (by simp only; omega) (by simp only; omega)
theorem sum_ge : ∀ (zs : List Int), (∀ l ∈ zs, 1 ≤ l ∧ l ≤ 90) → 32 * zs.length ≤ (zs.map (fun l => rlen l.toNat)).sum ∧ (zs.map (fun l => rlen l.toNat)).sum ≤ 200 * zs.length
  | [], _ => by simp
  | l :: t, h => by
    have h1 := sum_ge t (fun y hy => h y (by simp [hy]))
    obtain ⟨h2, h3⟩ := h l (by simp)
    have h4 : 32 ≤ rlen l.toNat ∧ rlen l.toNat ≤ 200 := by unfold rlen padN; omega
    rw [List.map_cons, List.sum_cons, List.length_cons]
    omega
theorem need_room {zs : List Int} (hz : ∀ l ∈ zs, 1 ≤ l ∧ l ≤ 90) (hl : zs.length ≤ 40) : (needV 0 zs).2 = 0 ∧ ((32 * zs.length : Nat) : Int) ≤ (needV 0 zs).1 ∧ (needV 0 zs).1 ≤ 8000 := by
  have h1 := needV_good zs 0 hz (by omega) (by omega)
  have h2 := needV_sum zs 0 h1 (fun l hl => by have := hz l hl; omega)
  have h3 := sum_ge zs hz
  refine ⟨h1, ?_, ?_⟩ <;> rw [h2] <;> omega
theorem needX_room {zs : List Int} (hz : ∀ l ∈ zs, 1 ≤ l ∧ l ≤ 90) (hl : zs.length ≤ 40) : needX 128 384 16 (exU zs) = if 320 < (needV 0 zs).1 then (0, 111) else ((needV 0 zs).1, 0) := by
  have h1 := (need_room hz hl).1
  have h2 : allMay 128 384 16 (exU zs) = true := by
    unfold allMay
    refine List.all_eq_true.2 fun x hx => ?_
    unfold exU at hx
    obtain ⟨l, hl, rfl⟩ := List.mem_map.1 hx
    have := hz l hl
    refine may_of_fine (x := (600, l)) ⟨by simp only; omega, by simp only; omega, by simp only; omega, .inr (by simp only; omega)⟩
  have h3 : (exU zs).map Prod.snd = zs := by simp [exU, Function.comp_def]
  unfold needX
  rw [if_pos h2, h3]
  by_cases h : 320 < (needV 0 zs).1
  · rw [if_pos h, if_pos (.inr (by omega))]
  · rw [if_neg h, if_neg (by
      rintro (h4 | h4)
      · exact h4 h1
      · omega)]
section
variable {B0 gl b : Nat} {W : World} {L : Lay} {σ : St}
theorem rm_write {ea : Option Addr} {zs : List Int} {m cap : Nat} (h : Lg B0 W gl b 128 384 L σ) (hn : σ.n = 16) (ho : σ.ops = 0) (hb : σ.bytes = imgZ 8) (hz : ∀ l ∈ zs, 1 ≤ l ∧ l ≤ 90) (he : SlE W ea (exU zs)) (hm : zs.length = m) (hml : m ≤ 40) :
    Calls Try.prog 9 #[.pointer (some ⟨gl, 0, none⟩), .slice ea m cap] W fun e w' => ∃ c rs L' s, e = .returned (.int .i64 c) ∧ Lg B0 w' gl b 128 384 L' s ∧ s.n = 16 ∧ s.ops ≤ 6000000 ∧ leV ((s.bytes.drop 128).take 8) = rs.length ∧ RecsAt 128 384 16 s.bytes 192 rs ∧ (320 < (needV 0 zs).1 → c = 111 ∧ rs = [] ∧ s.ops = 0) ∧ (¬ 320 < (needV 0 zs).1 → c = 0 ∧ rs = recL (imgZ 8) (exU zs)) ∧ Kp8 B0 W w' ∧ Stp W b L σ w' L' s := by
  have hnx := needX_room hz (by omega)
  have hnr := need_room hz (by omega)
  have hnum : leV ((σ.bytes.drop 128).take 8) = 0 := by rw [hb]; exact imgZ_num
  have hsame : ∀ w', Below W.heap.size W w' → Lg B0 w' gl b 128 384 L σ ∧ Kp8 B0 W w' ∧ Stp W b L σ w' L σ := fun w' hB => ⟨h.below hB, Kp8.of_below hB h.big, ⟨Gr.of_below hB, fun k hk => .inl hk⟩⟩
  by_cases hc : 320 < (needV 0 zs).1
  · rw [if_pos hc] at hnx
    refine (lwrite_none (cap := cap) h.log h.dv (by omega) (by omega) (by rw [hn]; omega) hnum he ((exU_len zs).trans hm) (by omega) (by rw [hn, hnx]; exact .inl (by decide))).mono ?_
    rintro e w' ⟨rfl, hB⟩
    obtain ⟨a1, a2, a3⟩ := hsame w' hB
    refine ⟨111, [], L, σ, by rw [hn, hnx], a1, hn, by omega, hnum, trivial, fun _ => ⟨rfl, rfl, ho⟩, fun h => absurd hc h, a2, a3⟩
  · rw [if_neg hc] at hnx
    by_cases h0 : zs = []
    · subst h0
      refine (lwrite_none (cap := cap) h.log h.dv (by omega) (by omega) (by rw [hn]; omega) hnum he ((exU_len []).trans hm) (by omega) (by rw [hn, hnx]; exact .inr rfl)).mono ?_
      rintro e w' ⟨rfl, hB⟩
      obtain ⟨a1, a2, a3⟩ := hsame w' hB
      exact ⟨0, [], L, σ, by rw [hn, hnx], a1, hn, by omega, hnum, trivial, fun h => absurd h hc, fun _ => ⟨rfl, rfl⟩, a2, a3⟩
    · have hm1 : 1 ≤ m := by
        cases zs with
        | nil => exact absurd rfl h0
        | cons x t => simp at hm; omega
      refine (lg_write (cap := cap) h (by rw [hn]; exact ⟨by omega, by omega, by omega, by omega⟩) (by omega) hnum he ((exU_len zs).trans hm) hm1 (by omega) (by rw [hn, hnx])).mono ?_
      rintro e w' ⟨rfl, L', s, hL, hW, hK, hS⟩
      have h1 := hW.like.n
      have h2 := hW.like.ops
      have h3 := hW.few
      have h4 := hW.num
      have h5 := hW.recs
      rw [hn, hb] at h5
      refine ⟨0, recL (imgZ 8) (exU zs), L', s, rfl, hL, by omega, by omega, by rw [recL_len]; exact h4, h5, fun h => absurd h hc, fun _ => ⟨rfl, rfl⟩, hK, hS⟩
end
theorem infoExt : ∃ i, Try.prog.info? 58 = some i ∧ i.zero = some (.agg #[.int .i64 0, .int .i64 0]) ∧ i.size = 2 ∧ i.bytes = 16 := by
  have h : (Try.prog.info? 58).map (fun i => (i.zero, i.size, i.bytes)) = some (some (.agg #[.int .i64 0, .int .i64 0]), 2, 16) := by kernel_rfl
  cases hq : Try.prog.info? 58 with
  | none => rw [hq] at h; cases h
  | some i => rw [hq] at h; simp at h; exact ⟨i, rfl, h.1, h.2.1, h.2.2⟩
theorem infoNum : ∃ i, Try.prog.info? 3 = some i ∧ i.zero = some (.int .i64 0) ∧ i.size = 1 ∧ i.bytes = 8 := by
  have h : (Try.prog.info? 3).map (fun i => (i.zero, i.size, i.bytes)) = some (some (.int .i64 0), 1, 8) := by kernel_rfl
  cases hq : Try.prog.info? 3 with
  | none => rw [hq] at h; cases h
  | some i => rw [hq] at h; simp at h; exact ⟨i, rfl, h.1, h.2.1, h.2.2⟩
/-- The cells of extents. -/
def exC (xs : List (Int × Int)) : List Value := xs.flatMap (fun x => [.int .i64 x.1, .int .i64 x.2])
theorem exC_snoc (xs : List (Int × Int)) (x : Int × Int) : exC (xs ++ [x]) = exC xs ++ [.int .i64 x.1, .int .i64 x.2] := by simp [exC]
theorem exC_get : ∀ (xs : List (Int × Int)) (i : Nat) (x l : Int), xs[i]? = some (x, l) → (exC xs)[i * 2]? = some (.int .i64 x) ∧ (exC xs)[i * 2 + 1]? = some (.int .i64 l)
  | [], i, x, l, h => by simp at h
  | y :: t, 0, x, l, h => by simp at h; subst h; exact ⟨rfl, rfl⟩
  | y :: t, i + 1, x, l, h => by
    have h1 := exC_get t i x l (by simpa using h)
    have e : exC (y :: t) = .int .i64 y.1 :: .int .i64 y.2 :: exC t := rfl
    rw [e, show (i + 1) * 2 = i * 2 + 1 + 1 by omega]
    exact h1
theorem sle_of_row {W : World} {base n cap : Nat} {v : Value} {xs : List (Int × Int)} (h : W.ownsRow base 58 2 v n (exC xs)) (hn : xs.length = n) (hb : ∀ x ∈ xs, (-9223372036854775808 ≤ x.1 ∧ x.1 ≤ 9223372036854775807) ∧ (-9223372036854775808 ≤ x.2 ∧ x.2 ≤ 9223372036854775807)) : ∃ a c, v = .slice a n c ∧ SlE W a xs := by
  rcases h.2 with ⟨rfl, rfl⟩ | ⟨g, cp, cur, rfl, h1, h2, h3, h4, h5, h6⟩
  · exact ⟨none, 0, rfl, hb, .inl (List.length_eq_zero_iff.1 hn)⟩
  · refine ⟨some ⟨g, 0, none⟩, cp, rfl, hb, .inr ⟨g, 0, cur, rfl, h2, fun i x l hi => ?_⟩⟩
    obtain ⟨e1, e2⟩ := exC_get xs i x l hi
    have hil : i < xs.length := (List.getElem?_eq_some_iff.1 hi).1
    rw [← h6, List.getElem?_take, if_pos (by omega), Array.getElem?_toList] at e1 e2
    rw [Nat.zero_add]
    exact ⟨e1, e2⟩
theorem slz_of_row {W : World} {base n : Nat} {v : Value} {zs : List Int} (h : W.ownsRow base 3 1 v n (zs.map (fun z => .int .i64 z))) (hn : zs.length = n) (hb : ∀ z ∈ zs, -9223372036854775808 ≤ z ∧ z ≤ 9223372036854775807) : ∃ a c, v = .slice a n c ∧ SlZ W a zs := by
  rcases h.2 with ⟨rfl, rfl⟩ | ⟨g, cp, cur, rfl, h1, h2, h3, h4, h5, h6⟩
  · exact ⟨none, 0, rfl, hb, .inl (List.length_eq_zero_iff.1 hn)⟩
  · refine ⟨some ⟨g, 0, none⟩, cp, rfl, hb, .inr ⟨g, 0, rfl, lt_of_heap h2, fun i z hi => ?_⟩⟩
    have hil : i < zs.length := (List.getElem?_eq_some_iff.1 hi).1
    have e1 : (zs.map (fun z => Value.int .i64 z))[i]? = some (.int .i64 z) := by rw [List.getElem?_map, hi]; rfl
    rw [← h6, List.getElem?_take, if_pos (by omega), Array.getElem?_toList] at e1
    rw [Nat.zero_add]
    exact (cell8 h2 i).trans e1
end Go.Proofs.Ytadmekikdaocoaa
namespace Go.Proofs.Ytadmekikdaocoaa
open Go.RowKit Go.Shelf
set_option linter.unusedVariables false
set_option maxRecDepth 100000

theorem own_other {W W' : World} {base n n' s s' : Nat} {t t' : TypeId} {v v' : Value} {xs xs' : List Value} (h : W.ownsRow base t s v n xs) (h' : W.ownsRow base t' s' v' n' xs') (ht : t ≠ t') (hg : W.grownBy W' v'.ownBlock) : W'.ownsRow base t s v n xs := by
  refine ownsRow_of_block h (fun g hgb => ?_)
  obtain ⟨c, hc⟩ := own_type h hgb
  refine hg.block g (lt_of_heap hc) (fun e => ?_)
  obtain ⟨c', hc'⟩ := own_type h' e.symm
  exact ne_ty hc hc' ht rfl
theorem own_below {W W' : World} {base n s : Nat} {t : TypeId} {v : Value} {xs : List Value} (h : W.ownsRow base t s v n xs) (hB : Below W.heap.size W W') : W'.ownsRow base t s v n xs :=
  ownsRow_of_block h (fun g hg => by obtain ⟨c, hc⟩ := own_type h hg; exact hB.block g (lt_of_heap hc))
theorem index_numU (g o i len cap : Nat) (hi : i < len) (w : World) : (Instr.indexAt 51 (.slice (some ⟨g, o, none⟩) len cap) (.int .i64 (i : Int))).run Try.prog w = .ok (.pointer (some ⟨g, o + i, none⟩)) w := by
  have h := index_at (t := 51) (e := 3) (sz := 1) Try.underlying51 (by kernel_rfl) g o i len cap hi w
  rwa [Nat.mul_one] at h
theorem index_recU (g i len cap : Nat) (hi : i < len) (w : World) : (Instr.indexAt 38 (.slice (some ⟨g, 0, none⟩) len cap) (.int .i64 (i : Int))).run Try.prog w = .ok (.pointer (some ⟨g, i * 2, none⟩)) w := by
  have h := index_at (t := 38) (e := 63) (sz := 2) Try.underlying38 (by kernel_rfl) g 0 i len cap hi w
  rwa [Nat.zero_add] at h
/-- A row of records as a slice, none among them. -/
theorem RowC.shape {w : World} {base : Nat} {v : Value} {rs : List (Nat × List Nat)} {Rs : List Nat} (h : RowC w base v rs Rs) : ∃ a cap, v = .slice a rs.length cap ∧ ∀ (i : Nat) (r : Nat × List Nat), rs[i]? = some r → ∃ gr cur R, a = some ⟨gr, 0, none⟩ ∧ w.heap[gr]? = some (.cells cur 63 (0, 0)) ∧ cur[i * 2]? = some (.int .i64 (r.1 : Int)) ∧ cur[i * 2 + 1]? = some (.slice (some ⟨R, 24, none⟩) r.2.length ((recB r.1 r.2).length - 24)) := by
  by_cases h0 : rs = []
  · subst h0
    obtain ⟨a, cap, rfl⟩ := h.nil
    exact ⟨a, cap, rfl, fun i r hr => by simp at hr⟩
  · obtain ⟨gr, cap, cur, rfl, hg, _, hc⟩ := h.slice (by cases rs with | nil => exact absurd rfl h0 | cons x t => simp)
    refine ⟨some ⟨gr, 0, none⟩, cap, rfl, fun i r hr => ?_⟩
    have hi : i < rs.length := (List.getElem?_eq_some_iff.1 hr).1
    have hR : i < Rs.length := by rw [h.len]; exact hi
    obtain ⟨h1, h2⟩ := hc i (r, Rs[i]) (by rw [List.getElem?_zip_eq_some]; exact ⟨hr, List.getElem?_eq_getElem hR⟩)
    exact ⟨gr, cur, Rs[i], rfl, hg, h1, h2⟩
/-- What stands in the records of extents at 600. -/
theorem recR_get {zs : List Int} {i : Nat} {z : Int} (hz : ∀ l ∈ zs, 1 ≤ l ∧ l ≤ 90) (h : zs[i]? = some z) : ∃ old, (recL (imgZ 8) (exU zs))[i]? = some (600, old) ∧ ((old.length : Nat) : Int) = z := by
  have hm := hz z (List.mem_of_getElem? h)
  refine ⟨oldOf (imgZ 8) (600, z), ?_, ?_⟩
  · unfold recL exU
    rw [List.map_map, List.getElem?_map, h]
    rfl
  · have hf : Fine 128 384 16 (600, z) := ⟨by simp only; omega, by simp only; omega, by simp only; omega, .inr (by simp only; omega)⟩
    rw [fine_old hf (by rw [imgZ_len])]
    simp only
    omega
end Go.Proofs.Ytadmekikdaocoaa
namespace Go.Proofs.Ytadmekikdaocoaa
open Go.RowKit Go.Shelf
set_option linter.unusedVariables false
set_option maxRecDepth 100000

/-- How many bytes an extent is brought to, and where. -/
def brN (l : Int) : Int := 1 + IntKind.i64.wrap (l - 1) % 40
def brA (x l : Int) : Int := if 256 ≤ x ∨ x < 0 then 512 + x % (513 - brN l) else 64 + x % (65 - brN l)
def brE (x : Int × Int) : Int × Int := (brA x.1 x.2, brN x.2)
def brL (xs : List (Int × Int)) (i : Nat) : List (Int × Int) := (xs.take i).map brE
theorem brL_succ {xs : List (Int × Int)} {i : Nat} {x : Int × Int} (h : xs[i]? = some x) : brL xs (i + 1) = brL xs i ++ [brE x] := by
  unfold brL
  rw [List.take_add_one, h]
  simp
theorem brL_len {xs : List (Int × Int)} {i : Nat} (h : i ≤ xs.length) : (brL xs i).length = i := by
  unfold brL
  rw [List.length_map, List.length_take]
  omega
theorem brN_in (l : Int) : 1 ≤ brN l ∧ brN l ≤ 40 := by unfold brN; omega
theorem brA_in (x l : Int) : (64 ≤ brA x l ∧ brA x l + brN l ≤ 128) ∨ (512 ≤ brA x l ∧ brA x l + brN l ≤ 1024) := by
  have h := brN_in l
  unfold brA
  have e1 : 0 ≤ x % (513 - brN l) := Int.emod_nonneg _ (by omega)
  have e2 : x % (513 - brN l) < 513 - brN l := Int.emod_lt_of_pos _ (by omega)
  have e3 : 0 ≤ x % (65 - brN l) := Int.emod_nonneg _ (by omega)
  have e4 : x % (65 - brN l) < 65 - brN l := Int.emod_lt_of_pos _ (by omega)
  split <;> omega
theorem brL_in {xs : List (Int × Int)} {i : Nat} : ∀ y ∈ brL xs i, 1 ≤ y.2 ∧ y.2 ≤ 40 ∧ ((64 ≤ y.1 ∧ y.1 + y.2 ≤ 128) ∨ (512 ≤ y.1 ∧ y.1 + y.2 ≤ 1024)) := by
  intro y hy
  unfold brL at hy
  obtain ⟨x, _, rfl⟩ := List.mem_map.1 hy
  have h1 := brN_in x.2
  have h2 := brA_in x.1 x.2
  exact ⟨h1.1, h1.2, h2⟩
theorem brL_fine {xs : List (Int × Int)} {i : Nat} : ∀ y ∈ brL xs i, Fine 128 384 16 y := by
  intro y hy
  obtain ⟨h1, h2, h3⟩ := brL_in y hy
  exact ⟨by omega, by omega, by omega, by omega⟩
/-- Extents that were handed in. -/
def SlX (w : World) (a : Option Addr) (xs : List (Int × Int)) : Prop := (∀ x ∈ xs, (-9223372036854775808 ≤ x.1 ∧ x.1 ≤ 9223372036854775807) ∧ (-9223372036854775808 ≤ x.2 ∧ x.2 ≤ 9223372036854775807)) ∧ (xs = [] ∨ ∃ g o, a = some ⟨g, o, none⟩ ∧ g < w.heap.size ∧ ∀ (i : Nat) (x l : Int), xs[i]? = some (x, l) → w.cell? ⟨g, o + i * 2, none⟩ = some (.int .i64 x) ∧ w.cell? ⟨g, o + i * 2 + 1, none⟩ = some (.int .i64 l))
theorem SlX.below {w w' : World} {a : Option Addr} {xs : List (Int × Int)} (h : SlX w a xs) (hB : Below w.heap.size w w') : SlX w' a xs := by
  refine ⟨h.1, h.2.imp id ?_⟩
  rintro ⟨g, o, e, hg, hc⟩
  exact ⟨g, o, e, Nat.lt_of_lt_of_le hg hB.size, fun i x l hi => ⟨(hB.cell (p := ⟨g, o + i * 2, none⟩) hg).trans (hc i x l hi).1, (hB.cell (p := ⟨g, o + i * 2 + 1, none⟩) hg).trans (hc i x l hi).2⟩⟩
set_option maxHeartbeats 2000000 in
theorem ubrought_any {w : World} {ea a1 a2 : Option Addr} {xs : List (Int × Int)} {m c m1 c1 m2 c2 : Nat} {lg : Bool} (h : SlX w ea xs) (hm : xs.length = m) :
    Calls Try.prog 7 #[.agg #[.slice ea m c, .slice a1 m1 c1, .slice a2 m2 c2, .bool lg]] w fun e w' => ∃ v, e = .returned v ∧ ∃ k, k ≤ m ∧ k ≤ 5 ∧ w'.ownsRow w.heap.size 58 2 v k (exC (brL xs k)) ∧ Below w.heap.size w w' := by
  obtain ⟨i0, hi0, hz0, hz1, hz2⟩ := infoExt
  have hA : Below w.heap.size w (w.alloc (.cells #[.slice ea m c, .slice a1 m1 c1, .slice a2 m2 c2, .bool lg] 26)) := (Below.refl _ w).alloc (Nat.le_refl _) _
  have hX := heap_alloc_new w (.cells #[.slice ea m c, .slice a1 m1 c1, .slice a2 m2 c2, .bool lg] 26)
  have HH := hide h
  have HM := hide hm
  clear h hm
  go_enter Try.func7, Try.ntmps7
  go_wp2
  generalize hXX : w.alloc (.cells #[.slice ea m c, .slice a1 m1 c1, .slice a2 m2 c2, .bool lg] 26) = X at *
  have hsX : w.heap.size < X.heap.size := lt_of_heap hX
  have HA := hide hA
  have HX := hide hX
  clear hA hX hXX
  go_loopw [3, 4] (fun lv iv wr => ∃ i : Nat, iv = .int .i64 (i : Int) ∧ i ≤ m ∧ i ≤ 5 ∧ wr.ownsRow X.heap.size 58 2 lv i (exC (brL xs i)) ∧ Below X.heap.size X wr) (fun _ iv _ => (5 - (intOf iv).toNat))
  case atStart => exact ⟨0, rfl, Nat.zero_le _, Nat.zero_le _, ⟨rfl, .inl ⟨rfl, rfl⟩⟩, Below.refl _ _⟩
  case round =>
    obtain ⟨i, rfl, him, hi5, hr, hB⟩ := hrel
    have cS : wr.cell? ⟨w.heap.size, 0, none⟩ = some (.slice ea m c) := (hB.cell (p := ⟨w.heap.size, 0, none⟩) hsX).trans (cell8 HX.out 0)
    by_cases hlt : i < m
    · have iI : (i : Int) < (m : Int) := by omega
      by_cases hlt5 : i < 5
      · have iI5 : (i : Int) < 5 := by omega
        obtain ⟨x, hx⟩ : ∃ x, xs[i]? = some x := ⟨_, List.getElem?_eq_getElem (by rw [HM.out]; exact hlt)⟩
        have hxb := HH.out.1 x (List.mem_of_getElem? hx)
        have hbs := brL_succ hx
        obtain ⟨x, l⟩ := x
        obtain ⟨g, o, rfl, hg, hcc⟩ : ∃ g o, ea = some ⟨g, o, none⟩ ∧ g < w.heap.size ∧ ∀ (i : Nat) (x l : Int), xs[i]? = some (x, l) → w.cell? ⟨g, o + i * 2, none⟩ = some (.int .i64 x) ∧ w.cell? ⟨g, o + i * 2 + 1, none⟩ = some (.int .i64 l) := by
          rcases HH.out.2 with e | e
          · rw [e] at hx; simp at hx
          · exact e
        have hgr : Below w.heap.size w wr := bseq HA.out hB
        have cx : wr.cell? ⟨g, o + i * 2, none⟩ = some (.int .i64 x) := (hgr.cell (p := ⟨g, o + i * 2, none⟩) hg).trans (hcc i x l hx).1
        have cl : wr.cell? ⟨g, o + i * 2 + 1, none⟩ = some (.int .i64 l) := (hgr.cell (p := ⟨g, o + i * 2 + 1, none⟩) hg).trans (hcc i x l hx).2
        have ib := index_ext g o i m c hlt wr
        simp only at hxb
        obtain ⟨hxb, hlb⟩ := hxb
        obtain ⟨lw, hlw⟩ : ∃ lw, IntKind.i64.wrap (l - 1) = lw := ⟨_, rfl⟩
        have hlw2 : -9223372036854775808 ≤ lw ∧ lw ≤ 9223372036854775807 := by rw [← hlw, IntKind.wrap_i64]; omega
        have hN := brN_in l
        have eN : 1 + lw % 40 = brN l := by unfold brN; rw [hlw]
        have eA := brA_in x l
        have KW1 := hide (fun W => uwithin_any W lw 40 (by omega) (by omega) hlw2.1 hlw2.2)
        obtain ⟨nv, hnv⟩ : ∃ nv, brN l = nv := ⟨_, rfl⟩
        rw [hnv] at hN eN eA
        obtain ⟨av, hav⟩ : ∃ av, brA x l = av := ⟨_, rfl⟩
        rw [hav] at eA
        have hE : brE (x, l) = (av, nv) := by unfold brE; rw [hav, hnv]
        rw [hE] at hbs
        obtain ⟨lm, hlm⟩ : ∃ lm, lw % 40 = lm := ⟨_, rfl⟩
        rw [hlm] at KW1 eN
        have wn : IntKind.i64.wrap (1 + lm) = nv := by rw [eN, IntKind.wrap_i64]; omega
        have s1 : IntKind.i64.wrap (64 - nv) = 64 - nv := by rw [IntKind.wrap_i64]; omega
        have s2 : IntKind.i64.wrap (64 - nv + 1) = 65 - nv := by rw [IntKind.wrap_i64]; omega
        have s3 : IntKind.i64.wrap (512 - nv) = 512 - nv := by rw [IntKind.wrap_i64]; omega
        have s4 : IntKind.i64.wrap (512 - nv + 1) = 513 - nv := by rw [IntKind.wrap_i64]; omega
        have KW2 := hide (fun W => uwithin_any W x (65 - nv) (by omega) (by omega) hxb.1 hxb.2)
        have KW3 := hide (fun W => uwithin_any W x (513 - nv) (by omega) (by omega) hxb.1 hxb.2)
        have e3 : 0 ≤ x % (65 - nv) := Int.emod_nonneg _ (by omega)
        have e4 : x % (65 - nv) < 65 - nv := Int.emod_lt_of_pos _ (by omega)
        have e5 : 0 ≤ x % (513 - nv) := Int.emod_nonneg _ (by omega)
        have e6 : x % (513 - nv) < 513 - nv := Int.emod_lt_of_pos _ (by omega)
        have hav2 := hav
        unfold brA at hav2
        rw [hnv] at hav2
        generalize x % (65 - nv) = q1 at *
        generalize x % (513 - nv) = q2 at *
        have s5 : IntKind.i64.wrap (64 + q1) = 64 + q1 := by rw [IntKind.wrap_i64]; omega
        have s6 : IntKind.i64.wrap (512 + q2) = 512 + q2 := by rw [IntKind.wrap_i64]; omega
        have HBS := hide hbs
        have HR := hide hr
        have HB := hide hB
        have M1 := hide trivial
        have M2 := hide trivial
        have HAV := hav2
        clear hbs hr hB hgr hcc hg hx hE hlm hav hnv eA hlw2 hav2
        by_cases hf1 : 256 ≤ x
        · rw [if_pos (.inl hf1)] at HAV
          subst HAV
          have u9 : True := trivial
          have hA1 : Below wr.heap.size wr (wr.alloc (.cells #[.int .i64 (512 + q2), .int .i64 nv] 58)) := (Below.refl _ wr).alloc (Nat.le_refl _) _
          have HO1 := hide (own_below HR.out hA1)
          have HB1 := hide (bseq HB.out hA1)
          have hsz1 : X.heap.size ≤ (wr.alloc (.cells #[.int .i64 (512 + q2), .int .i64 nv] 58)).heap.size := HB1.out.size
          clear hA1
          go_wp2_with (first
            | (go_at_call 21; clear M1; refine (KW1.out _).mono ?_; rintro e w' ⟨rfl, hw⟩; obtain rfl := hw.symm)
            | (go_at_call 21; clear M2; refine (KW2.out _).mono ?_; rintro e w' ⟨rfl, hw⟩; obtain rfl := hw.symm)
            | (go_at_call 21; refine (KW3.out _).mono ?_; rintro e w' ⟨rfl, hw⟩; obtain rfl := hw.symm)
            | (at_builtin; refine wpList_append_own_at _ rfl _ _ 22 rfl X.heap.size 58 i0 (.agg #[.int .i64 0, .int .i64 0]) 2 16 Try.underlying22 hi0 hz0 hz1 hz2 rfl (by decide) u3 i (exC (brL xs i)) rfl HO1.out ⟨wr.heap.size, 0, none⟩ 1 1 [.int .i64 (512 + q2), .int .i64 nv] rfl rfl (cell_twoU wr _ _ _) (by simp [Value.oneCell']) (by unfold maxLen; omega) (by omega) hsz1 ?_
               intro v1 x1 ho3 hg3 hnn hat; clear hnn hat
               have HO3 := hide ho3
               have HB3 := hide (bel_of_grownT HB1.out HO1.out hg3)
               clear ho3 hg3))
          first | go_roundw | skip
          all_goals first
            | exact ⟨⟨i + 1, int_congrP (by omega), by omega, by omega, by rw [HBS.out, exC_snoc]; exact HO3.out, HB3.out⟩, by simp [intOf]; omega⟩
            | exact ⟨i + 1, int_congrP (by omega), by omega, by omega, by rw [HBS.out, exC_snoc]; exact HO3.out, HB3.out⟩
            | (simp [intOf]; omega)
        · by_cases hf2 : x < 0
          · rw [if_pos (.inr hf2)] at HAV
            subst HAV
            have u9 : True := trivial
            have hA1 : Below wr.heap.size wr (wr.alloc (.cells #[.int .i64 (512 + q2), .int .i64 nv] 58)) := (Below.refl _ wr).alloc (Nat.le_refl _) _
            have HO1 := hide (own_below HR.out hA1)
            have HB1 := hide (bseq HB.out hA1)
            have hsz1 : X.heap.size ≤ (wr.alloc (.cells #[.int .i64 (512 + q2), .int .i64 nv] 58)).heap.size := HB1.out.size
            clear hA1
            go_wp2_with (first
              | (go_at_call 21; clear M1; refine (KW1.out _).mono ?_; rintro e w' ⟨rfl, hw⟩; obtain rfl := hw.symm)
              | (go_at_call 21; clear M2; refine (KW2.out _).mono ?_; rintro e w' ⟨rfl, hw⟩; obtain rfl := hw.symm)
              | (go_at_call 21; refine (KW3.out _).mono ?_; rintro e w' ⟨rfl, hw⟩; obtain rfl := hw.symm)
              | (at_builtin; refine wpList_append_own_at _ rfl _ _ 22 rfl X.heap.size 58 i0 (.agg #[.int .i64 0, .int .i64 0]) 2 16 Try.underlying22 hi0 hz0 hz1 hz2 rfl (by decide) u3 i (exC (brL xs i)) rfl HO1.out ⟨wr.heap.size, 0, none⟩ 1 1 [.int .i64 (512 + q2), .int .i64 nv] rfl rfl (cell_twoU wr _ _ _) (by simp [Value.oneCell']) (by unfold maxLen; omega) (by omega) hsz1 ?_
                 intro v1 x1 ho3 hg3 hnn hat; clear hnn hat
                 have HO3 := hide ho3
                 have HB3 := hide (bel_of_grownT HB1.out HO1.out hg3)
                 clear ho3 hg3))
            first | go_roundw | skip
            all_goals first
              | exact ⟨⟨i + 1, int_congrP (by omega), by omega, by omega, by rw [HBS.out, exC_snoc]; exact HO3.out, HB3.out⟩, by simp [intOf]; omega⟩
              | exact ⟨i + 1, int_congrP (by omega), by omega, by omega, by rw [HBS.out, exC_snoc]; exact HO3.out, HB3.out⟩
              | (simp [intOf]; omega)
          · rw [if_neg (by omega)] at HAV
            subst HAV
            have u9 : True := trivial
            have hA1 : Below wr.heap.size wr (wr.alloc (.cells #[.int .i64 (64 + q1), .int .i64 nv] 58)) := (Below.refl _ wr).alloc (Nat.le_refl _) _
            have HO1 := hide (own_below HR.out hA1)
            have HB1 := hide (bseq HB.out hA1)
            have hsz1 : X.heap.size ≤ (wr.alloc (.cells #[.int .i64 (64 + q1), .int .i64 nv] 58)).heap.size := HB1.out.size
            clear hA1
            go_wp2_with (first
              | (go_at_call 21; clear M1; refine (KW1.out _).mono ?_; rintro e w' ⟨rfl, hw⟩; obtain rfl := hw.symm)
              | (go_at_call 21; clear M2; refine (KW2.out _).mono ?_; rintro e w' ⟨rfl, hw⟩; obtain rfl := hw.symm)
              | (at_builtin; refine wpList_append_own_at _ rfl _ _ 22 rfl X.heap.size 58 i0 (.agg #[.int .i64 0, .int .i64 0]) 2 16 Try.underlying22 hi0 hz0 hz1 hz2 rfl (by decide) u3 i (exC (brL xs i)) rfl HO1.out ⟨wr.heap.size, 0, none⟩ 1 1 [.int .i64 (64 + q1), .int .i64 nv] rfl rfl (cell_twoU wr _ _ _) (by simp [Value.oneCell']) (by unfold maxLen; omega) (by omega) hsz1 ?_
                 intro v1 x1 ho3 hg3 hnn hat; clear hnn hat
                 have HO3 := hide ho3
                 have HB3 := hide (bel_of_grownT HB1.out HO1.out hg3)
                 clear ho3 hg3))
            first | go_roundw | skip
            all_goals first
              | exact ⟨⟨i + 1, int_congrP (by omega), by omega, by omega, by rw [HBS.out, exC_snoc]; exact HO3.out, HB3.out⟩, by simp [intOf]; omega⟩
              | exact ⟨i + 1, int_congrP (by omega), by omega, by omega, by rw [HBS.out, exC_snoc]; exact HO3.out, HB3.out⟩
              | (simp [intOf]; omega)
      · have iI5 : ¬ (i : Int) < 5 := by omega
        go_wp2
        go_ret
        exact ⟨_, rfl, i, him, hi5, hr.mono (by omega), bseq HA.out hB⟩
    · have iI : ¬ (i : Int) < (m : Int) := by omega
      go_wp2
      go_ret
      exact ⟨_, rfl, i, him, hi5, hr.mono (by omega), bseq HA.out hB⟩
end Go.Proofs.Ytadmekikdaocoaa
namespace Go.Proofs.Ytadmekikdaocoaa
open Go.RowKit Go.Shelf
set_option linter.unusedVariables false
set_option maxRecDepth 100000

theorem take_of_lines {s σ : St} {m N : Nat} (hs : s.bytes.length = 64 * N) (hσ : σ.bytes.length = 64 * N) (h : ∀ i, i < m → i < N → s.line i = σ.line i) : s.bytes.take (64 * m) = σ.bytes.take (64 * m) := by
  refine List.ext_getElem? fun k => ?_
  rw [List.getElem?_take, List.getElem?_take]
  split
  · by_cases hk : k < 64 * N
    · have e := h (k / 64) (by omega) (by omega)
      have h1 := line_get (σ := s) (i := k / 64) (k := k % 64) (by omega)
      have h2 := line_get (σ := σ) (i := k / 64) (k := k % 64) (by omega)
      rw [show 64 * (k / 64) + k % 64 = k by omega] at h1 h2
      rw [← h1, ← h2, e]
    · rw [List.getElem?_eq_none (by omega), List.getElem?_eq_none (by omega)]
  · rfl
theorem drop_of_lines {s σ : St} {m N : Nat} (hs : s.bytes.length = 64 * N) (hσ : σ.bytes.length = 64 * N) (h : ∀ i, m ≤ i → i < N → s.line i = σ.line i) : s.bytes.drop (64 * m) = σ.bytes.drop (64 * m) := by
  refine List.ext_getElem? fun k => ?_
  rw [List.getElem?_drop, List.getElem?_drop]
  by_cases hk : 64 * m + k < 64 * N
  · have e := h ((64 * m + k) / 64) (by omega) (by omega)
    have h1 := line_get (σ := s) (i := (64 * m + k) / 64) (k := (64 * m + k) % 64) (by omega)
    have h2 := line_get (σ := σ) (i := (64 * m + k) / 64) (k := (64 * m + k) % 64) (by omega)
    rw [show 64 * ((64 * m + k) / 64) + (64 * m + k) % 64 = 64 * m + k by omega] at h1 h2
    rw [← h1, ← h2, e]
  · rw [List.getElem?_eq_none (by omega), List.getElem?_eq_none (by omega)]
theorem splice_lo {B c : List Nat} {at_ p : Nat} (h : at_ + c.length ≤ B.length) (hp : p ≤ at_) : (splice B at_ c).take p = B.take p := by
  refine List.ext_getElem? fun k => ?_
  rw [List.getElem?_take, List.getElem?_take]
  split
  · rw [splice_get _ _ _ _ h, if_pos (by omega)]
  · rfl
theorem splice_hi {B c : List Nat} {at_ p : Nat} (h : at_ + c.length ≤ B.length) (hp : at_ + c.length ≤ p) : (splice B at_ c).drop p = B.drop p := by
  refine List.ext_getElem? fun k => ?_
  rw [List.getElem?_drop, List.getElem?_drop, splice_get _ _ _ _ h, if_neg (by omega), if_neg (by omega)]
/-- What is seen then: c is what Write answered. -/
structure Aft (B : List Nat) (xs : List (Int × Int)) (c : Int) (C : List Nat) : Prop where
  res : ∃ rs, (rs = recL B xs ∨ (rs = [] ∧ c = 5)) ∧ leV ((C.drop 128).take 8) = rs.length ∧ RecsAt 128 384 16 C 192 rs
  lo : C.take 128 = B.take 128
  hi : C.drop 512 = B.drop 512
theorem aft_full {B C : List Nat} {xs : List (Int × Int)} {c : Int} (hB : B.length = 1024) (hx : ∀ y ∈ xs, Fine 128 384 16 y) (hroom : (recsB B xs).length ≤ 320) (hml : xs.length ≤ 4194304) (hC : C = splice (splice B 192 (recsB B xs)) 128 (leB 8 xs.length)) : Aft B xs c C := by
  have h8 : (leB 8 xs.length).length = 8 := leB_length 8 _
  have hs1 : (splice B 192 (recsB B xs)).length = B.length := splice_len _ _ _ (by omega)
  have hn := splice_at (B := splice B 192 (recsB B xs)) (c := leB 8 xs.length) (at_ := 128) (by omega)
  rw [h8] at hn
  refine ⟨⟨recL B xs, .inl rfl, ?_, ?_⟩, ?_, ?_⟩
  · rw [hC, hn, recL_len]
    exact leV_of (by omega)
  · refine recs_at (by omega) (by omega) xs 192 hx ?_ (by omega)
    rw [hC, splice_out (by omega) (by omega)]
    exact splice_at (by omega)
  · rw [hC, splice_lo (by omega) (by omega), splice_lo (by omega) (by omega)]
  · rw [hC, splice_hi (by omega) (by omega), splice_hi (by omega) (by omega)]
theorem aft_lost {B : List Nat} {xs : List (Int × Int)} {σ s : St} (hσ : σ.bytes = B) (hB : B.length = 1024) (hs : s.bytes.length = 1024) (hnum : leV ((B.drop 128).take 8) = 0) (h : ∀ i, i < 16 → (64 * i + 64 ≤ 128 + 64 ∨ 128 + 384 ≤ 64 * i) → s.line i = σ.line i) : Aft B xs 5 s.bytes := by
  have h1 := take_of_lines (s := s) (σ := σ) (m := 3) (N := 16) (by omega) (by rw [hσ]; omega) (fun i hi hN => h i hN (by omega))
  have h2 := drop_of_lines (s := s) (σ := σ) (m := 8) (N := 16) (by omega) (by rw [hσ]; omega) (fun i hi hN => h i hN (by omega))
  rw [hσ] at h1 h2
  have e1 : (s.bytes.drop 128).take 8 = (B.drop 128).take 8 := by
    have h3 := congrArg (fun l => (l.drop 128).take 8) h1
    simp only [List.drop_take, List.take_take] at h3
    simpa using h3
  refine ⟨⟨[], .inr ⟨rfl, rfl⟩, by rw [e1, hnum]; rfl, trivial⟩, ?_, h2⟩
  have h3 := congrArg (List.take 128) h1
  rw [List.take_take, List.take_take] at h3
  exact h3
/-- Extents that are brought always have room. -/
theorem need_brought {xs : List (Int × Int)} {k : Nat} (hk : k ≤ xs.length) (hk5 : k ≤ 5) : (needX 128 384 16 (brL xs k)).2 = 0 ∧ ((needX 128 384 16 (brL xs k)).1 = 0 ↔ k = 0) := by
  have hin := brL_in (xs := xs) (i := k)
  have hlen := brL_len hk
  have hz : ∀ l ∈ (brL xs k).map Prod.snd, 1 ≤ l ∧ l ≤ 90 := fun l hl => by
    obtain ⟨y, hy, rfl⟩ := List.mem_map.1 hl
    have := hin y hy
    omega
  have hl2 : ((brL xs k).map Prod.snd).length = k := by rw [List.length_map, hlen]
  have h1 := needV_good ((brL xs k).map Prod.snd) 0 hz (by omega) (by omega)
  have h2 := needV_sum ((brL xs k).map Prod.snd) 0 h1 (fun l hl => by have := hz l hl; omega)
  have h3 : ∀ (zs : List Int), (∀ l ∈ zs, 1 ≤ l ∧ l ≤ 40) → 32 * zs.length ≤ (zs.map (fun l => rlen l.toNat)).sum ∧ (zs.map (fun l => rlen l.toNat)).sum ≤ 64 * zs.length := by
    intro zs
    induction zs with
    | nil => intro _; simp
    | cons l t ih =>
      intro h
      have h1 := ih (fun y hy => h y (by simp [hy]))
      obtain ⟨h2, h3⟩ := h l (by simp)
      have h4 : 32 ≤ rlen l.toNat ∧ rlen l.toNat ≤ 64 := by unfold rlen padN; omega
      rw [List.map_cons, List.sum_cons, List.length_cons]
      omega
  have h4 := h3 ((brL xs k).map Prod.snd) (fun l hl => by
    obtain ⟨y, hy, rfl⟩ := List.mem_map.1 hl
    have := hin y hy
    omega)
  rw [hl2] at h4
  have h5 : allMay 128 384 16 (brL xs k) = true := by
    unfold allMay
    exact List.all_eq_true.2 fun x hx => may_of_fine (brL_fine x hx)
  unfold needX
  rw [if_pos h5, if_neg (by
    rintro (h | h)
    · exact h h1
    · rw [h2] at h; omega)]
  refine ⟨rfl, ?_⟩
  simp only
  rw [h2]
  omega
end Go.Proofs.Ytadmekikdaocoaa
namespace Go.Proofs.Ytadmekikdaocoaa
open Go.RowKit Go.Shelf
set_option linter.unusedVariables false
set_option maxRecDepth 100000

/-- A device that is on and may be, to be read. -/
structure Dr (w : World) (b : Nat) (L : Lay) (σ : St) : Prop where
  dev : DevL w b L σ
  ok : σ.Ok
  on : σ.off = false
theorem Dr.below {w w' : World} {b : Nat} {L : Lay} {σ : St} (h : Dr w b L σ) (hB : Below w.heap.size w w') : Dr w' b L σ := ⟨h.dev.below hB, h.ok, h.on⟩
theorem Dv.dr {w : World} {b : Nat} {L : Lay} {σ : St} (h : Dv w b L σ) : Dr w b L σ := ⟨h.dev, h.ok, h.on⟩
theorem dr_load {w : World} {b : Nat} {L : Lay} {σ : St} {at_ n : Nat} (h : Dr w b L σ) (hlen : at_ + n ≤ 64 * σ.n) :
    Calls Try.prog 24 #[.pointer (some ⟨b, 0, none⟩), .int .i64 (at_ : Int), .int .i64 (n : Int)] w fun e w' => ∃ R, e = .returned (.tuple #[.slice (some ⟨R, 0, none⟩) n n, .int .i64 0]) ∧ w.heap.size ≤ R ∧ OwnB w' R ((σ.bytes.drop at_).take n) ∧ Below w.heap.size w w' := by
  refine (callsIn_wide.1 (pload_in h.dev h.ok h.on hlen)).mono ?_
  rintro e w' ⟨R, h1, h2, h3, h4⟩
  exact ⟨R, h1, h2, h3, h4⟩
set_option maxHeartbeats 2000000 in
theorem lnumber_r {w : World} {g b a z : Nat} {L : Lay} {σ : St} (h : LogL w g b a z) (hd : Dr w b L σ) (ha8 : a % 8 = 0) (hal : a + 8 ≤ 64 * σ.n) : Calls Try.prog 30 #[.pointer (some ⟨g, 0, none⟩)] w fun e w' => e = .returned (.tuple #[.int .u64 ((leV ((σ.bytes.drop a).take 8) : Nat) : Int), .int .i64 0]) ∧ Below w.heap.size w w' := by
  have hmx := hd.ok.max
  have kw : ∀ W, Below w.heap.size w W → Calls Try.prog 53 #[.pointer (some ⟨b, 0, none⟩), .int .i64 (a : Int)] W fun e w' => e = .returned (.tuple #[.int .u64 ((leV ((σ.bytes.drop a).take 8) : Nat) : Int), .int .i64 0]) ∧ Below W.heap.size W w' := fun W hB => by
    exact qword (w := W) (p := some ⟨b, 0, none⟩) (a : Int) (by omega) (by omega) ((σ.bytes.drop a).take 8) (by rw [List.length_take, List.length_drop, hd.ok.len]; omega) (fun y hy => hd.ok.byte y (List.mem_of_mem_drop (List.mem_of_mem_take hy))) (fun X hX => (dr_load (at_ := a) (n := 8) ((hd.below hB).below hX) hal).mono fun e w' ⟨R, q1, _, q3, q4⟩ => ⟨R, q1, q3, q4⟩)
  generalize leV ((σ.bytes.drop a).take 8) = v at *
  have KN := hide (lnone_any h)
  have KW := hide kw
  have H := hide h
  clear h hd kw hmx
  go_enter Try.func30, Try.ntmps30
  go_wp2_with (go_at_call 52; refine (KN.out).mono ?_; rintro e w' ⟨rfl, hw⟩; obtain rfl := hw.symm)
  refine wp_region_held_drew (S := fun Y => LogL Y g b a z) (by kernel_rfl) H.out.drew (fun hS => ?_)
  refine wpAnyH_take (i := 0) (v := (.pointer (some ⟨g, 0, none⟩))) rfl (by kernel_rfl) (by kernel_rfl) (by kernel_rfl) (fun _ _ _ h => h) (Or.inl ⟨by kernel_rfl, fun w' hw => by (go_simp)⟩) hS ?_
  refine wpAnyH_take (i := 1) (v := (.pointer (some ⟨g, 0, none⟩))) rfl (by kernel_rfl) (by kernel_rfl) (by kernel_rfl) (fun _ _ _ h => h) (Or.inl ⟨by kernel_rfl, fun w' hw => by (go_simp)⟩) hS ?_
  refine wpAnyH_take (i := 2) (v := (.pointer (some ⟨g, 1, none⟩))) rfl (by kernel_rfl) (by kernel_rfl) (by kernel_rfl) (fun _ _ _ h => h) (Or.inl ⟨by kernel_rfl, fun w' hw => by (go_simp)⟩) hS ?_
  refine wpAnyH_take (i := 3) (v := (.pointer (some ⟨b, 0, none⟩))) rfl (by kernel_rfl) (by kernel_rfl) (by kernel_rfl) (fun _ _ _ h => h) (Or.inl ⟨by kernel_rfl, fun w' hw => by (have z1 := LogL.c1 hw; have z2 := LogL.c2 hw; have z3 := LogL.c3 hw; go_simp)⟩) hS ?_
  refine wpAnyH_take (i := 4) (v := (.pointer (some ⟨g, 0, none⟩))) rfl (by kernel_rfl) (by kernel_rfl) (by kernel_rfl) (fun _ _ _ h => h) (Or.inl ⟨by kernel_rfl, fun w' hw => by (go_simp)⟩) hS ?_
  refine wpAnyH_take (i := 5) (v := (.pointer (some ⟨g, 0, none⟩))) rfl (by kernel_rfl) (by kernel_rfl) (by kernel_rfl) (fun _ _ _ h => h) (Or.inl ⟨by kernel_rfl, fun w' hw => by (go_simp)⟩) hS ?_
  refine wpAnyH_take (i := 6) (v := (.pointer (some ⟨g, 2, none⟩))) rfl (by kernel_rfl) (by kernel_rfl) (by kernel_rfl) (fun _ _ _ h => h) (Or.inl ⟨by kernel_rfl, fun w' hw => by (go_simp)⟩) hS ?_
  refine wpAnyH_take (i := 7) (v := (.int .i64 (a : Int))) rfl (by kernel_rfl) (by kernel_rfl) (by kernel_rfl) (fun _ _ _ h => h) (Or.inl ⟨by kernel_rfl, fun w' hw => by (have z1 := LogL.c1 hw; have z2 := LogL.c2 hw; have z3 := LogL.c3 hw; go_simp)⟩) hS ?_
  refine wpAnyH_goS (i := 8) (by kernel_rfl) rfl (by kernel_rfl) (fun K hK => ?_)
  go_wp2_with (go_at_call 53; refine (KW.out _ (Below.refl _ w).drew).mono ?_; rintro e W1 ⟨rfl, hB⟩; have HB := hide (bseq (Below.refl _ w).drew hB); clear hB)
  have hS2 := H.out.below HB.out
  refine hK.out _ _ hS2 ?_
  clear hK K
  refine wpAnyH_take (i := 9) (v := (.int .u64 (v : Int))) rfl (by kernel_rfl) (by kernel_rfl) (by kernel_rfl) (fun _ _ _ h => h) (Or.inl ⟨by kernel_rfl, fun w' hw => by (go_simp)⟩) hS2 ?_
  refine wpAnyH_take (i := 10) (v := (.int .i64 0)) rfl (by kernel_rfl) (by kernel_rfl) (by kernel_rfl) (fun _ _ _ h => h) (Or.inl ⟨by kernel_rfl, fun w' hw => by (go_simp)⟩) hS2 ?_
  refine wpAnyH_take (i := 11) (v := (.int .u64 (v : Int))) rfl (by kernel_rfl) (by kernel_rfl) (by kernel_rfl) (fun _ _ _ h => h) (Or.inl ⟨by kernel_rfl, fun w' hw => by (go_simp)⟩) hS2 ?_
  refine wpAnyH_take (i := 12) (v := (.int .i64 0)) rfl (by kernel_rfl) (by kernel_rfl) (by kernel_rfl) (fun _ _ _ h => h) (Or.inl ⟨by kernel_rfl, fun w' hw => by (go_simp)⟩) hS2 ?_
  refine wpAnyH_done (by kernel_rfl) ?_ _
  simp only [Act.put, List.getElem_toArray, List.getElem_cons_zero, List.getElem_cons_succ, List.setIfInBounds_toArray, List.set_cons_zero, List.set_cons_succ]
  go_wp2_with (fail)
  go_ret2
  exact ⟨rfl, HB.out⟩
set_option maxHeartbeats 2000000 in
theorem lextent_r {w : World} {g b a z : Nat} {L : Lay} {σ : St} (at_ xn ln : Nat) (h : LogL w g b a z) (hd : Dr w b L σ) (haz : a + z ≤ 64 * σ.n) (hat : at_ + 24 ≤ a + z) (hx : (σ.bytes.drop at_).take 8 = leB 8 xn) (hl : (σ.bytes.drop (at_ + 8)).take 8 = leB 8 ln) (hxn : xn ≤ 4194304) (hln : ln ≤ 4194304) (hmay : mayV a z σ.n (xn : Int) (ln : Int) = true) :
    Calls Try.prog 61 #[.pointer (some ⟨g, 0, none⟩), .int .i64 (at_ : Int)] w fun e w' => e = .returned (.tuple #[.agg #[.int .i64 (xn : Int), .int .i64 (ln : Int)], .int .i64 0]) ∧ Below w.heap.size w w' := by
  have hmx := hd.ok.max
  have hA : Below w.heap.size w (w.alloc (.cells #[.int .i64 0, .int .i64 0] 58)) := (Below.refl _ w).alloc (Nat.le_refl _) _
  have hnw := heap_alloc_new w (.cells #[.int .i64 0, .int .i64 0] 58)
  have hlog := h.below hA
  have KE := hide (lend_any hlog (by omega))
  have hA2 := bseq hA (Below.refl _ _).drew
  have KL := hide (dr_load (at_ := at_) (n := 24) (hd.below hA2) (by omega))
  have hb24 : ((σ.bytes.drop at_).take 24).length = 24 := by rw [List.length_take, List.length_drop, hd.ok.len]; omega
  have hb256 : ∀ y ∈ (σ.bytes.drop at_).take 24, y < 256 := fun y hy => hd.ok.byte y (List.mem_of_mem_drop (List.mem_of_mem_take hy))
  have q0 : leV ((((σ.bytes.drop at_).take 24).drop 0).take 8) = xn := by rw [drop_take_take (by omega), Nat.add_zero, hx, leV_of (by omega)]
  have q8 : leV ((((σ.bytes.drop at_).take 24).drop 8).take 8) = ln := by rw [drop_take_take (by omega), hl, leV_of (by omega)]
  have KT0 := hide (fun (W : World) (R : Nat) (hO : OwnB W R ((σ.bytes.drop at_).take 24)) => show Calls Try.prog 78 #[.slice (some ⟨R, 0, none⟩) 24 24, .int .i64 0] W fun e w' => e = .returned (.int .i64 (xn : Int)) ∧ w' = W by
    have k := ltake_any (a := some ⟨R, 0, none⟩) 24 0 W (hO.sl hb256) hb24 (by omega)
    rw [q0, IntWalk.wrap64_in _ (by omega)] at k
    exact k)
  have KT8 := hide (fun (W : World) (R : Nat) (hO : OwnB W R ((σ.bytes.drop at_).take 24)) => show Calls Try.prog 78 #[.slice (some ⟨R, 0, none⟩) 24 24, .int .i64 8] W fun e w' => e = .returned (.int .i64 (ln : Int)) ∧ w' = W by
    have k := ltake_any (a := some ⟨R, 0, none⟩) 24 8 W (hO.sl hb256) hb24 (by omega)
    rw [q8, IntWalk.wrap64_in _ (by omega)] at k
    exact k)
  have km := fun W (hB : Below w.heap.size w W) => lmay_any (xn : Int) (ln : Int) (h.below hB) (hd.dev.below hB) hmx (by omega) (by omega) (by omega)
  rw [hmay] at km
  have KM := hide km
  generalize (σ.bytes.drop at_).take 24 = B24 at *
  have HLOG := hide hlog
  have HNW := hide hnw
  have HA2 := hide hA2
  have wm : IntKind.i64.wrap (((a + z : Nat) : Int) - 24) = ((a + z : Nat) : Int) - 24 := by rw [IntKind.wrap_i64]; omega
  have hcmp : ¬ ((a + z : Nat) : Int) - 24 < (at_ : Int) := by omega
  obtain ⟨AZ, hAZ⟩ : ∃ AZ, a + z = AZ := ⟨_, rfl⟩
  rw [hAZ] at KE wm hcmp
  clear h hd hx hl hmay km hlog hnw hA hA2 hb24 hb256 q0 q8 hAZ
  go_enter Try.func61, Try.ntmps61
  go_upto_region 3 with (go_at_call 56; refine (KE.out).mono ?_; rintro e w' ⟨rfl, hw⟩; obtain rfl := hw.symm)
  have c1 := HLOG.out.drew.c1
  go_upto_region 7 with (first
    | (go_at_call 24; refine (KL.out).mono ?_; rintro e W2 ⟨RR, rfl, hRn, hRo, hRb⟩; have HRO := hide hRo; have HRB := hide hRb; have KT0R := hide (KT0.out W2 RR hRo); have KT8R := hide (KT8.out W2 RR hRo); clear hRn hRo hRb)
    | (go_at_call 78; refine (KT0R.out).mono ?_; rintro e w' ⟨rfl, hw⟩; obtain rfl := hw.symm; clear KT0R)
    | (go_at_call 78; refine (KT8R.out).mono ?_; rintro e w' ⟨rfl, hw⟩; obtain rfl := hw.symm; clear KT8R))
  have hA3 : Below W2.heap.size W2 (W2.alloc (.cells #[.int .i64 (xn : Int), .int .i64 (ln : Int)] 58)) := (Below.refl _ W2).alloc (Nat.le_refl _) _
  have hb3 := bseq (bseq HA2.out HRB.out) hA3
  have KM3 := hide (KM.out _ hb3)
  have HNEW := hide (heap_alloc_new W2 (.cells #[.int .i64 (xn : Int), .int .i64 (ln : Int)] 58))
  have HR0 := hide (row_keepU (row_keepU (show (w.alloc (.cells #[.int .i64 0, .int .i64 0] 58)).drew.heap[w.heap.size]? = _ from HNW.out) HRB.out) hA3)
  have HB3 := hide hb3
  clear hb3 hA3
  go_upto_region 9 with (go_at_call 54; refine (KM3.out).mono ?_; rintro e W4 ⟨rfl, hb⟩; have HB4 := hide hb; clear hb)
  have r0 := row_keepU HR0.out HB4.out
  have r8 := row_keepU HNEW.out HB4.out
  have x0 : W4.cell? ⟨W2.heap.size, 0, none⟩ = some (.int .i64 (xn : Int)) := cell8 r8 0
  have x1 : W4.cell? ⟨W2.heap.size, 1, none⟩ = some (.int .i64 (ln : Int)) := cell8 r8 1
  obtain ⟨⟨d0, d1⟩, ⟨f0, f1⟩, RR2, BB, _⟩ := chain2 r0 (.int .i64 (xn : Int)) (.int .i64 (ln : Int))
  have R9 := hide RR2
  have B9 := hide (BB w.heap.size w (Nat.le_refl _) (bseq HB3.out HB4.out))
  clear RR2 BB r0 r8
  go_wp2_with (fail)
  (try simp only [Exit.inBlock, Exit.then])
  refine bodyPost_ret (results_rowU rfl _ _ w.heap.size _ _ _ _ rfl R9.out Try.underlying58 rfl (by kernel_rfl)) rfl ?_
  exact ⟨rfl, B9.out⟩
set_option maxHeartbeats 2000000 in
theorem lread_r {w : World} {g b a z : Nat} {L : Lay} {σ : St} (at_ xn : Nat) (old : List Nat) (h : LogL w g b a z) (hd : Dr w b L σ) (haz : a + z ≤ 64 * σ.n) (hat : at_ + (recB xn old).length ≤ a + z) (hrec : RecAt σ.bytes at_ xn old) (hol : 1 ≤ old.length) (hxn : xn ≤ 4194304) (hmay : mayV a z σ.n (xn : Int) (old.length : Int) = true) :
    Calls Try.prog 36 #[.pointer (some ⟨g, 0, none⟩), .int .i64 (at_ : Int)] w fun e w' => ∃ R, e = .returned (.tuple #[.agg #[.int .i64 (xn : Int), .slice (some ⟨R, 24, none⟩) old.length ((recB xn old).length - 24)], .int .i64 (((recB xn old).length : Nat) : Int), .int .i64 0]) ∧ w.heap.size ≤ R ∧ OwnB w' R (recB xn old) ∧ Below w.heap.size w w' := by
  have hmx := hd.ok.max
  have hrl := recB_len xn old
  obtain ⟨p8, p16⟩ := rec_parts hrec
  have hpad : padN old.length < 8 := by unfold padN; omega
  have hold : ∀ y ∈ old, y < 256 := fun y hy => by
    have h5 : y ∈ recB xn old := by unfold recB; simp [hy]
    rw [← hrec] at h5
    exact hd.ok.byte y (List.mem_of_mem_drop (List.mem_of_mem_take h5))
  have hr256 := recB_lt xn old hold
  have KX := hide (fun W (hB : Below w.heap.size w W) => lextent_r at_ xn old.length (h.below hB) (hd.below hB) haz (by omega) p8 p16 hxn (by omega) hmay)
  have hnv : needV 0 [(old.length : Int)] = ((((recB xn old).length : Nat) : Int), 0) := by
    have hr := roundV_pad (l := (old.length : Int)) (by omega) (by omega)
    unfold needV
    rw [hr, if_neg (by simp; omega)]
    unfold needV
    rw [hrl]
    simp
  have KN := hide (fun (W : World) => show Calls Try.prog 55 #[.slice (some ⟨W.heap.size, 0, none⟩) 1 1] (W.alloc (.cells #[.int .i64 (old.length : Int)] 3)) fun e w' => e = .returned (.tuple #[.int .i64 (((recB xn old).length : Nat) : Int), .int .i64 0]) ∧ w' = W.alloc (.cells #[.int .i64 (old.length : Int)] 3) by
    have hnw := heap_alloc_new W (.cells #[.int .i64 (old.length : Int)] 3)
    have k := need_any (a := some ⟨W.heap.size, 0, none⟩) (zs := [(old.length : Int)]) 1 1 (w := W.alloc (.cells #[.int .i64 (old.length : Int)] 3)) ⟨fun z hz => by rw [List.mem_singleton.1 hz]; omega, .inr ⟨W.heap.size, 0, rfl, lt_of_heap hnw, fun i z hz => by
      match i, hz with
      | 0, hz => simp at hz; subst hz; exact cell8 hnw 0
      | i + 1, hz => simp at hz⟩⟩ rfl (by omega)
    rw [hnv] at k
    exact k)
  have KE := hide (fun W (hB : Below w.heap.size w W) => lend_any (h.below hB) (by omega))
  have kl := fun W (hB : Below w.heap.size w W) => dr_load (at_ := at_) (n := (recB xn old).length) (hd.below hB) (by omega)
  unfold RecAt at hrec
  rw [hrec] at kl
  have KL := hide kl
  have KLA := hide (fun (W : World) (R : Nat) (hO : OwnB W R (recB xn old)) => llaid_any xn R 24 old ((recB xn old).length - 24) W (fun i y hy => ⟨hO.cell (24 + i) y (by
    unfold recB
    rw [List.getElem?_append_right (by rw [recH_len]; omega), recH_len, show 24 + i - 24 = i by omega, List.getElem?_append_left (List.getElem?_eq_some_iff.1 hy).1]
    exact hy), hold y (List.mem_of_getElem? hy)⟩) hO.lt hol (by omega) (by omega) hold)
  have SO := hide (fun (R : Nat) W => slice_old R (recB xn old).length old.length hol (by omega) (by omega) W)
  obtain ⟨ln, hln⟩ : ∃ ln, old.length = ln := ⟨_, rfl⟩
  obtain ⟨rb, hrb⟩ : ∃ rb, recB xn old = rb := ⟨_, rfl⟩
  obtain ⟨rl, hrlv⟩ : ∃ rl, rb.length = rl := ⟨_, rfl⟩
  have HLOG := hide h
  rw [hrb] at hat hrl hr256 KN KL KLA SO ⊢
  rw [hln] at hrl KX KN KLA SO ⊢
  rw [hrlv] at hat hrl KN KL KLA SO ⊢
  have HR256 := hide hr256
  have HRLV := hide hrlv
  have hA : Below w.heap.size w (w.alloc (.cells #[.int .i64 0, .slice none 0 0] 63)) := (Below.refl _ w).alloc (Nat.le_refl _) _
  have HNW := hide (heap_alloc_new w (.cells #[.int .i64 0, .slice none 0 0] 63))
  have HA := hide hA
  have hrl1 : 25 ≤ rl ∧ rl ≤ 4194304 := by omega
  obtain ⟨tl, htl⟩ : ∃ tl, 24 + ln = tl := ⟨_, rfl⟩
  have wm24 : IntKind.i64.wrap (24 + (ln : Int)) = (tl : Int) := by rw [IntKind.wrap_i64]; omega
  rw [htl] at SO
  clear htl
  obtain ⟨AZ, hAZ⟩ : ∃ AZ, a + z = AZ := ⟨_, rfl⟩
  rw [hAZ] at KE hat haz
  have wme : IntKind.i64.wrap ((AZ : Int) - (at_ : Int)) = (AZ : Int) - (at_ : Int) := by rw [IntKind.wrap_i64]; omega
  have hcmp : ¬ (AZ : Int) - (at_ : Int) < (rl : Int) := by omega
  clear h hd hrec hmay p8 p16 hold hr256 hnv kl hA hln hrb hrlv hAZ hol hrl
  go_enter Try.func36, Try.ntmps36
  go_upto_region 4 with (go_at_call 61; refine (KX.out _ HA.out).mono ?_; rintro e W1 ⟨rfl, hb⟩; have HB1 := hide hb; clear hb)
  have hA1 : Below W1.heap.size W1 (W1.alloc (.cells #[.int .i64 (xn : Int), .int .i64 (ln : Int)] 58)) := (Below.refl _ W1).alloc (Nat.le_refl _) _
  have HE1 := hide (heap_alloc_new W1 (.cells #[.int .i64 (xn : Int), .int .i64 (ln : Int)] 58))
  have HR1 := hide (row_keepU (row_keepU HNW.out HB1.out) hA1)
  have HB2 := hide (bseq (bseq HA.out HB1.out) hA1)
  have x0 : (W1.alloc (.cells #[.int .i64 (xn : Int), .int .i64 (ln : Int)] 58)).cell? ⟨W1.heap.size, 0, none⟩ = some (.int .i64 (xn : Int)) := cell8 HE1.out 0
  have x1 : (W1.alloc (.cells #[.int .i64 (xn : Int), .int .i64 (ln : Int)] 58)).cell? ⟨W1.heap.size, 1, none⟩ = some (.int .i64 (ln : Int)) := cell8 HE1.out 1
  generalize W1.alloc (.cells #[.int .i64 (xn : Int), .int .i64 (ln : Int)] 58) = X1 at *
  generalize W1.heap.size = ev at *
  clear hA1
  have hA2 : Below X1.heap.size X1 (X1.alloc (.cells #[.int .i64 (ln : Int)] 3)) := (Below.refl _ X1).alloc (Nat.le_refl _) _
  have HB3 := hide (bseq HB2.out hA2)
  have KN1 := hide (KN.out X1)
  have KE1 := hide (KE.out _ HB3.out)
  have HE2 := hide (row_keepU HE1.out hA2)
  have HR2 := hide (row_keepU HR1.out hA2)
  clear hA2
  go_upto_region 7 with (first
    | (go_at_call 55; refine (KN1.out).mono ?_; rintro e w' ⟨rfl, hw⟩; obtain rfl := hw.symm)
    | (go_at_call 56; refine (KE1.out).mono ?_; rintro e w' ⟨rfl, hw⟩; obtain rfl := hw.symm))
  have c1 := (HLOG.out.below (HB3.out.drew)).c1
  have KL1 := hide (KL.out _ HB3.out.drew)
  go_upto_region 10 with (go_at_call 24; refine (KL1.out).mono ?_; rintro e W4 ⟨RR, rfl, hRn, hRo, hRb⟩; have HRO := hide hRo; have HRN := hide hRn; have HRB := hide hRb; clear hRn hRo hRb)
  have r4 := row_keepU (show (X1.alloc (.cells #[.int .i64 (ln : Int)] 3)).drew.heap[ev]? = _ from HE2.out) HRB.out
  have y0 : W4.cell? ⟨ev, 0, none⟩ = some (.int .i64 (xn : Int)) := cell8 r4 0
  have y1 : W4.cell? ⟨ev, 1, none⟩ = some (.int .i64 (ln : Int)) := cell8 r4 1
  have so := fun W => SO.out RR W
  have KLA1 := hide (KLA.out W4 RR HRO.out)
  clear r4
  go_upto_region 13 with (first
    | (go_at_call 57; refine (KLA1.out).mono ?_; rintro e W5 ⟨rv, rfl, hrv, hb5⟩; obtain ⟨rg, rcap, rfl, hsl, _, _, _⟩ := OwnR.slice hrv HR256.out (by rw [HRLV.out]; omega); rw [HRLV.out]; have KEQ := hide (bequal_same rl rcap rl HRLV.out ((HRO.out.below hb5 HRO.out.lt).sl HR256.out) hsl (by omega)); have HB5 := hide hb5; clear hrv hb5 hsl)
    | (go_at_call 62; refine (KEQ.out).mono ?_; rintro e w' ⟨rfl, hw⟩; obtain rfl := hw.symm))
  have r5 := row_keepU (row_keepU (show (X1.alloc (.cells #[.int .i64 (ln : Int)] 3)).drew.heap[ev]? = _ from HE2.out) HRB.out) HB5.out
  have z0 : W5.cell? ⟨ev, 0, none⟩ = some (.int .i64 (xn : Int)) := cell8 r5 0
  have q5 := row_keepU (row_keepU (show (X1.alloc (.cells #[.int .i64 (ln : Int)] 3)).drew.heap[w.heap.size]? = _ from HR2.out) HRB.out) HB5.out
  obtain ⟨⟨d0, d1⟩, ⟨f0, f1⟩, RR2, BB, OO⟩ := chain2 q5 (.int .i64 (xn : Int)) (.slice (some ⟨RR, 24, none⟩) ln (rl - 24))
  have R9 := hide RR2
  have B9 := hide (BB w.heap.size w (Nat.le_refl _) (bseq (bseq HB3.out.drew HRB.out) HB5.out))
  have hne : RR ≠ w.heap.size := by
    have h1 := HRN.out
    have h2 := lt_of_heap HR2.out
    have h3 : (X1.alloc (.cells #[.int .i64 (ln : Int)] 3)).drew.heap.size = (X1.alloc (.cells #[.int .i64 (ln : Int)] 3)).heap.size := rfl
    omega
  have O9 := hide ((HRO.out.below HB5.out HRO.out.lt).of_block (OO RR hne))
  have HLE := hide (Nat.le_trans HB3.out.drew.size HRN.out)
  clear RR2 BB OO r5 q5 hne
  go_wp2_with (fail)
  (try simp only [Exit.inBlock, Exit.then])
  refine bodyPost_ret (results_rowU3 rfl _ _ w.heap.size _ _ _ _ rfl R9.out Try.underlying63 rfl (by kernel_rfl)) rfl ?_
  exact ⟨RR, rfl, HLE.out, O9.out, B9.out⟩
set_option maxHeartbeats 2000000 in
theorem lrecords_r {w : World} {g b a z : Nat} {L : Lay} {σ : St} (rs : List (Nat × List Nat)) (h : LogL w g b a z) (hd : Dr w b L σ) (ha8 : a % 8 = 0) (hz : 64 ≤ z) (haz : a + z ≤ 64 * σ.n) (hnum : leV ((σ.bytes.drop a).take 8) = rs.length) (hrs : RecsAt a z σ.n σ.bytes (a + 64) rs) (hk : rs.length ≤ 4194304) :
    Calls Try.prog 11 #[.pointer (some ⟨g, 0, none⟩)] w fun e w' => ∃ v Rs, e = .returned (.tuple #[v, .int .i64 0]) ∧ RowC w' w.heap.size v rs Rs ∧ Below w.heap.size w w' := by
  have hmx := hd.ok.max
  obtain ⟨i0, hi0, hz0, hz1, hz2⟩ := infoRec
  have kn := lnumber_r h hd ha8 (by omega)
  rw [hnum] at kn
  obtain ⟨k, hkk⟩ : ∃ k, rs.length = k := ⟨_, rfl⟩
  rw [hkk] at kn hk
  have KN := hide kn
  have KR := hide (fun W (hB : Below w.heap.size w W) => lroom_any (h.below hB) (by omega))
  have KRD := hide (fun W (hB : Below w.heap.size w W) (at_ : Nat) (r : Nat × List Nat) (h1 : RecAt σ.bytes at_ r.1 r.2) (h2 : 1 ≤ r.2.length) (h3 : r.1 ≤ 4194304) (h4 : mayV a z σ.n (r.1 : Int) (r.2.length : Int) = true) (h5 : at_ + (recB r.1 r.2).length ≤ a + z) => lread_r at_ r.1 r.2 (h.below hB) (hd.below hB) haz h5 h1 h2 h3 h4)
  have HRS := hide hrs
  have HK := hide hkk
  have kI : (k : Int) ≤ 4194304 := by omega
  clear h hd kn hnum hrs hkk
  go_enter Try.func11, Try.ntmps11
  go_wp2_with (first | (go_at_call 30; refine (KN.out).mono ?_; rintro e W1 ⟨rfl, hb⟩; have HB1 := hide hb; clear hb) | (go_at_call 34; refine (KR.out _ HB1.out).mono ?_; rintro e w' ⟨rfl, hw⟩; obtain rfl := hw.symm))
  go_loopw [4, 6, 7] (fun nv rv av wr => ∃ (j : Nat) (Rs : List Nat) (at0 : Nat), nv = .int .u64 ((k - j : Nat) : Int) ∧ av = .int .i64 (at0 : Int) ∧ at0 = a + 64 + recsLen (rs.take j) ∧ j ≤ k ∧ RowC wr w.heap.size rv (rs.take j) Rs ∧ Below w.heap.size w wr) (fun nv _ _ _ => (intOf nv).toNat)
  case atStart => exact ⟨0, [], a + 64, rfl, rfl, by simp [recsLen], Nat.zero_le _, ⟨rfl, ⟨rfl, .inl ⟨rfl, rfl⟩⟩, fun i r R h1 => by simp at h1, List.Pairwise.nil⟩, HB1.out⟩
  case round =>
    obtain ⟨j, Rs, at0, rfl, rfl, hat0, hj, hrow, hB⟩ := hrel
    have HAT0 := hide hat0
    clear hat0
    by_cases hlt : j < k
    · obtain ⟨r, hr⟩ : ∃ r, rs[j]? = some r := ⟨_, List.getElem?_eq_getElem (by rw [HK.out]; exact hlt)⟩
      have hts : rs.take (j + 1) = rs.take j ++ [r] := by rw [List.take_add_one, hr]; rfl
      have hdr := RecsAt.drop rs (a + 64) j HRS.out
      rw [← HAT0.out, List.drop_eq_getElem_cons (by rw [HK.out]; exact hlt)] at hdr
      have er : rs[j]'(by rw [HK.out]; exact hlt) = r := by
        have h5 := List.getElem?_eq_getElem (l := rs) (i := j) (by rw [HK.out]; exact hlt)
        rw [h5] at hr
        exact Option.some.inj hr
      rw [er] at hdr
      obtain ⟨q1, q2, q3, q4, q5, _⟩ := hdr
      have krd := KRD.out wr hB at0 r q1 q2 q3 q4 q5
      obtain ⟨n, hn⟩ : ∃ n : Nat, k - j = n + 1 := ⟨k - j - 1, by omega⟩
      rw [hn]
      have nI : (0 : Int) < ((n + 1 : Nat) : Int) := by omega
      obtain ⟨m, hm⟩ : ∃ m, n + 1 = m := ⟨_, rfl⟩
      rw [hm] at nI ⊢
      have wmn : IntKind.u64.wrap ((m : Int) - 1) = (n : Int) := by rw [IntKind.wrap_u64]; omega
      obtain ⟨x, old⟩ := r
      simp only at krd q2 q3 q5
      have hlen := hrow.len
      obtain ⟨rl, hrl⟩ : ∃ rl, (recB x old).length = rl := ⟨_, rfl⟩
      obtain ⟨ln, hln⟩ : ∃ ln, old.length = ln := ⟨_, rfl⟩
      have hRC : ∀ R, recC (x, old) R = [.int .i64 (x : Int), .slice (some ⟨R, 24, none⟩) ln (rl - 24)] := fun R => by unfold recC; simp only; rw [hrl, hln]
      rw [hrl, hln] at krd
      rw [hrl] at q5
      have KRDx := hide krd
      have HROW := hide hrow
      have HB := hide hB
      have HTS := hide hts
      have HNM := hide (And.intro hn hm)
      have HRC := hide hRC
      have HRL := hide hrl
      have wma : IntKind.i64.wrap ((at0 : Int) + (rl : Int)) = ((at0 + rl : Nat) : Int) := by rw [IntKind.wrap_i64]; omega
      obtain ⟨at1, hat1⟩ : ∃ at1, at0 + rl = at1 := ⟨_, rfl⟩
      rw [hat1] at wma
      have HAT1 := hide hat1
      have hjl : (rs.take j).length = j := by rw [List.length_take, HK.out]; omega
      have HJL := hide hjl
      clear krd hrow hB hts q1 q4 hn hm hlen hRC hrl hat1 er hr hln hjl
      go_upto_region 11 with (go_at_call 36; refine (KRDx.out).mono ?_; rintro e W2 ⟨R, rfl, hRs, hRo, hRb⟩; have HRS2 := hide hRs; have HRO := hide hRo; have HRB := hide hRb; clear hRs hRo hRb)
      have hA1 : Below W2.heap.size W2 (W2.alloc (.cells #[.int .i64 (x : Int), .slice (some ⟨R, 24, none⟩) ln (rl - 24)] 63)) := (Below.refl _ W2).alloc (Nat.le_refl _) _
      have hnew := heap_alloc_new W2 (.cells #[.int .i64 (x : Int), .slice (some ⟨R, 24, none⟩) ln (rl - 24)] 63)
      have c0 : (W2.alloc (.cells #[.int .i64 (x : Int), .slice (some ⟨R, 24, none⟩) ln (rl - 24)] 63)).cell? ⟨W2.heap.size, 0, none⟩ = some (.int .i64 (x : Int)) := cell8 hnew 0
      have c1 : (W2.alloc (.cells #[.int .i64 (x : Int), .slice (some ⟨R, 24, none⟩) ln (rl - 24)] 63)).cell? ⟨W2.heap.size, 1, none⟩ = some (.slice (some ⟨R, 24, none⟩) ln (rl - 24)) := cell8 hnew 1
      have HB3 := hide (bseq HRB.out hA1)
      have HO3 := hide (HRO.out.below hA1 HRO.out.lt)
      have hRlt := HRO.out.lt
      generalize hXX : W2.alloc (.cells #[.int .i64 (x : Int), .slice (some ⟨R, 24, none⟩) ln (rl - 24)] 63) = X at *
      have hA2 : Below X.heap.size X (X.alloc (.cells #[.int .i64 (x : Int), .slice (some ⟨R, 24, none⟩) ln (rl - 24)] 63)) := (Below.refl _ X).alloc (Nat.le_refl _) _
      have hrow4 := (HROW.out.keep HB3.out).keep hA2
      have HB4 := hide (bseq (bseq HB.out HB3.out) hA2)
      have HO4 := hide (HO3.out.below hA2 HO3.out.lt)
      have HROW4 := hide hrow4
      have hsz : w.heap.size ≤ (X.alloc (.cells #[.int .i64 (x : Int), .slice (some ⟨R, 24, none⟩) ln (rl - 24)] 63)).heap.size := HB4.out.size
      have hrr := hrow4.row
      rw [HJL.out] at hrr
      have HRR := hide hrr
      have hlenR := hrow4.len
      rw [HJL.out] at hlenR
      clear hXX hA1 hnew hA2 hrow4 hrr
      go_wp2_with (at_builtin; refine wpList_append_own_at _ rfl _ _ 38 rfl w.heap.size 63 i0 (.agg #[.int .i64 0, .slice none 0 0]) 2 32 Try.underlying38 hi0 hz0 hz1 hz2 rfl (by decide) u6 j (((rs.take j).zip Rs).flatMap (fun p => recC p.1 p.2)) rfl HRR.out ⟨X.heap.size, 0, none⟩ 1 1 [.int .i64 (x : Int), .slice (some ⟨R, 24, none⟩) ln (rl - 24)] rfl rfl (cell_twoU X _ _ _) (by simp [Value.oneCell']) (by unfold maxLen; omega) (by omega) hsz ?_; intro v1 x1 ho3 hg3 hnn hat3; clear hnn hat3; have HO7 := hide ho3; have HG7 := hide hg3; clear ho3 hg3)
      go_roundw
      case rel =>
        have hB7 := bel_of_grownT HB4.out HRR.out HG7.out
        obtain ⟨hn, hm⟩ := HNM.out
        refine ⟨j + 1, Rs ++ [R], at1, int_congrP (by omega), rfl, ?_, by omega, ⟨?_, ?_, ?_, ?_⟩, hB7⟩
        · rw [HTS.out, recsLen_snoc, HRL.out, ← HAT1.out, HAT0.out]
          omega
        · rw [HTS.out, List.length_append, List.length_append, hlenR, HJL.out]
          rfl
        · have e1 : ((rs.take j ++ [(x, old)]).zip (Rs ++ [R])).flatMap (fun p => recC p.1 p.2) = ((rs.take j).zip Rs).flatMap (fun p => recC p.1 p.2) ++ [.int .i64 (x : Int), .slice (some ⟨R, 24, none⟩) ln (rl - 24)] := by
            rw [List.zip_append (by rw [hlenR, HJL.out]), List.flatMap_append, ← HRC.out R]
            simp
          rw [HTS.out, e1, List.length_append, HJL.out]
          exact HO7.out
        · intro i r' R' h1 h2
          rw [HTS.out] at h1
          have hg := HG7.out
          have notrow : ∀ (k' : Nat) (c' : Array Value), (X.alloc (.cells #[.int .i64 (x : Int), .slice (some ⟨R, 24, none⟩) ln (rl - 24)] 63)).heap[k']? = some (.cells c' 5 (0, 0)) → x1.heap[k']? = (X.alloc (.cells #[.int .i64 (x : Int), .slice (some ⟨R, 24, none⟩) ln (rl - 24)] 63)).heap[k']? := fun k' c' hk' => hg.block k' (lt_of_heap hk') (fun e => by
            obtain ⟨c2, hc2⟩ := own_type HRR.out e.symm
            exact ne_ty hk' hc2 (by decide) rfl)
          by_cases hi : i < j
          · rw [List.getElem?_append_left (by rw [HJL.out]; exact hi)] at h1
            rw [List.getElem?_append_left (by rw [hlenR]; exact hi)] at h2
            obtain ⟨o1, o2⟩ := HROW4.out.own i r' R' h1 h2
            exact ⟨o1.of_block (notrow R' _ o1), o2⟩
          · have hij : i = j := by
              have := (List.getElem?_eq_some_iff.1 h1).1
              rw [List.length_append, HJL.out] at this
              simp at this
              omega
            subst hij
            rw [List.getElem?_append_right (by rw [HJL.out]; exact Nat.le_refl _), HJL.out, Nat.sub_self] at h1
            rw [List.getElem?_append_right (by rw [hlenR]; exact Nat.le_refl _), hlenR, Nat.sub_self] at h2
            simp at h1 h2
            subst h1 h2
            exact ⟨HO4.out.of_block (notrow R _ HO4.out), Nat.le_trans HB.out.size HRS2.out⟩
        · rw [List.pairwise_append]
          refine ⟨HROW4.out.ne, List.pairwise_singleton _ _, fun p hp q hq => ?_⟩
          rw [List.mem_singleton.1 hq]
          obtain ⟨i, hi⟩ := List.getElem?_of_mem hp
          have hil : i < j := by have := (List.getElem?_eq_some_iff.1 hi).1; omega
          obtain ⟨r', hr'⟩ : ∃ r', (rs.take j)[i]? = some r' := ⟨_, List.getElem?_eq_getElem (by rw [HJL.out]; exact hil)⟩
          have := (HROW.out.own i r' p hr' hi).1.lt
          have := HRS2.out
          omega
      case measure => obtain ⟨hn, hm⟩ := HNM.out; simp [intOf]; omega
    · obtain rfl : j = k := by omega
      have hfull : rs.take j = rs := List.take_of_length_le (by rw [HK.out]; exact Nat.le_refl _)
      rw [hfull] at hrow
      have HROW := hide hrow
      have HB := hide hB
      rw [Nat.sub_self]
      clear hrow hB hfull
      go_wp2
      go_ret2
      exact ⟨_, Rs, rfl, HROW.out, HB.out⟩
end Go.Proofs.Ytadmekikdaocoaa
namespace Go.Proofs.Ytadmekikdaocoaa
open Go.ChangeShapes Go.WideShapes Go.ChangeAt Go.RowKit
set_option linter.unusedVariables false

theorem own : ownKnob Try.prog.godebug = none := by kernel_rfl
theorem laidOut : laidOutB Try.prog = true := by kernel_rfl
theorem Try.bytes5 : Try.prog.bytesOf 5 = 1 := by kernel_rfl

/-- Numbers that fit a byte, as naturals. -/
theorem nats_of (zs : List Int) (h : ∀ n ∈ zs, (Lit.int .u8 n).wf = true) : ∃ bs : List Nat, zs = bs.map (fun (x : Nat) => (x : Int)) ∧ ∀ x ∈ bs, x < 256 := by
  refine ⟨zs.map Int.toNat, ?_, ?_⟩
  · rw [List.map_map]
    refine (List.map_id zs).symm.trans (List.map_congr_left fun z hz => ?_)
    have := bounds_u8 (h z hz)
    simp
    omega
  · intro x hx
    obtain ⟨z, hz, rfl⟩ := List.mem_map.1 hx
    have := bounds_u8 (h z hz)
    omega

theorem open_bytes {H : Type} {enc : TypeId × Value → H} {W : World} {a : Option Addr} {len cap : Nat} {d : DataW H} {p : List MemPlace} (h : DataW.Trod enc Try.prog W 0 (fun _ => true) true 33 (.slice a len cap) d p)
    (hz : ∀ el sp, d = .slice el sp → (el.length + sp.length) * Try.prog.bytesOf 5 ≤ reachBytes) : ∃ bs : List Nat, len = bs.length ∧ Sl W a bs ∧ bs.length ≤ 140737488351232 ∧ (a = none → cap = 0) ∧ len ≤ cap ∧ cap ≤ maxLen ∧ (d = .nil ∧ bs = [] ∨ ∃ el sp, d = .slice el sp ∧ el.length = bs.length) := by
  obtain ⟨fuel, hf⟩ := h
  rcases open_ints Try.underlying33 Try.underlying5 (by kernel_rfl) hf with ⟨hcs, _⟩ | ⟨x, l, c, zs, hcs, _, hl, hm, hzl, hx, hcell, hwz⟩
  · simp [Value.cells] at hcs
    obtain ⟨rfl, rfl, rfl⟩ := hcs
    rename_i hx0
    simp only [Prod.mk.injEq] at hx0
    exact ⟨[], rfl, .inl rfl, by simp, fun _ => rfl, Nat.le_refl _, Nat.zero_le _, .inl ⟨hx0.1, rfl⟩⟩
  · simp [Value.cells] at hcs
    obtain ⟨rfl, rfl, rfl⟩ := hcs
    simp only [Prod.mk.injEq] at hx
    obtain ⟨hd, _⟩ := hx
    have hw := hz _ _ hd
    obtain ⟨bs, rfl, hb⟩ := nats_of zs hwz
    simp only [if_true, List.length_map] at hzl
    rw [Try.bytes5] at hw
    simp only [lits, List.length_map, List.length_take, List.length_drop, reachBytes] at hw
    refine ⟨bs.take len, by rw [List.length_take]; omega, ?_, by rw [List.length_take]; omega, fun h => (by cases h), hl, hm, .inr ⟨_, _, hd, by simp [lits]⟩⟩
    by_cases h0 : len = 0
    · subst h0; exact .inl (by simp)
    · obtain ⟨b, off, spot⟩ := x
      have hc := hcell 0 (by simp; omega)
      have hspot : spot = none := by simpa [Addr.add] using World.cell?_spot hc
      subst hspot
      refine .inr ⟨b, off, rfl, ?_, fun i y hy => ?_⟩
      · exact World.block_lt_of_cell? _ _ hc
      · have hi : i < len := by
          have := (List.getElem?_eq_some_iff.1 hy).1
          rw [List.length_take] at this
          omega
        rw [List.getElem?_take, if_pos hi] at hy
        have h1 := hcell i (by simp; omega)
        refine ⟨?_, hb y (List.mem_of_getElem? hy)⟩
        have e : (⟨b, off, none⟩ : Addr).add i = ⟨b, off + i, none⟩ := by simp [Addr.add]
        rw [e] at h1
        rw [h1, List.getD_eq_getElem?_getD, List.getElem?_map, hy]
        rfl
theorem open_bytes_up {H : Type} {enc : TypeId × Value → H} {W : World} {a : Option Addr} {len cap : Nat} {d : DataW H} {p : List MemPlace} (h : DataW.Trod enc Try.prog W 0 (fun _ => true) true 33 (.slice a len cap) d p) : ∃ bs : List Nat, len = bs.length ∧ Sl W a bs ∧ bs.length ≤ maxLen ∧ (a = none → cap = 0) ∧ len ≤ cap ∧ cap ≤ maxLen ∧ (d = .nil ∧ bs = [] ∨ ∃ el sp, d = .slice el sp ∧ el.length = bs.length) := by
  obtain ⟨fuel, hf⟩ := h
  rcases open_ints Try.underlying33 Try.underlying5 (by kernel_rfl) hf with ⟨hcs, _⟩ | ⟨x, l, c, zs, hcs, _, hl, hm, hzl, hx, hcell, hwz⟩
  · simp [Value.cells] at hcs
    obtain ⟨rfl, rfl, rfl⟩ := hcs
    rename_i hx0
    simp only [Prod.mk.injEq] at hx0
    exact ⟨[], rfl, .inl rfl, by simp, fun _ => rfl, Nat.le_refl _, Nat.zero_le _, .inl ⟨hx0.1, rfl⟩⟩
  · simp [Value.cells] at hcs
    obtain ⟨rfl, rfl, rfl⟩ := hcs
    simp only [Prod.mk.injEq] at hx
    obtain ⟨hd, _⟩ := hx
    obtain ⟨bs, rfl, hb⟩ := nats_of zs hwz
    simp only [if_true, List.length_map] at hzl
    refine ⟨bs.take len, by rw [List.length_take]; omega, ?_, by rw [List.length_take]; omega, fun h => (by cases h), hl, hm, .inr ⟨_, _, hd, by simp [lits]⟩⟩
    by_cases h0 : len = 0
    · subst h0; exact .inl (by simp)
    · obtain ⟨b, off, spot⟩ := x
      have hc := hcell 0 (by simp; omega)
      have hspot : spot = none := by simpa [Addr.add] using World.cell?_spot hc
      subst hspot
      refine .inr ⟨b, off, rfl, ?_, fun i y hy => ?_⟩
      · exact World.block_lt_of_cell? _ _ hc
      · have hi : i < len := by
          have := (List.getElem?_eq_some_iff.1 hy).1
          rw [List.length_take] at this
          omega
        rw [List.getElem?_take, if_pos hi] at hy
        have h1 := hcell i (by simp; omega)
        refine ⟨?_, hb y (List.mem_of_getElem? hy)⟩
        have e : (⟨b, off, none⟩ : Addr).add i = ⟨b, off + i, none⟩ := by simp [Addr.add]
        rw [e] at h1
        rw [h1, List.getD_eq_getElem?_getD, List.getElem?_map, hy]
        rfl
theorem open_nums_up {H : Type} {enc : TypeId × Value → H} {W : World} {a : Option Addr} {len cap : Nat} {d : DataW H} {p : List MemPlace} (h : DataW.Trod enc Try.prog W 0 (fun _ => true) true 51 (.slice a len cap) d p) :
    ∃ zs : List Int, len = zs.length ∧ SlI W a zs ∧ (∀ z ∈ zs, -9223372036854775808 ≤ z ∧ z ≤ 9223372036854775807) ∧ (d = .nil ∧ zs = [] ∨ ∃ el sp, d = .slice el sp ∧ el.length = zs.length) := by
  obtain ⟨fuel, hf⟩ := h
  rcases open_ints Try.underlying51 Try.underlying3 (by kernel_rfl) hf with ⟨hcs, hx0⟩ | ⟨x, l, c, zs, hcs, _, hl, hm, hzl, hx, hcell, hwz⟩
  · simp [Value.cells] at hcs
    obtain ⟨rfl, rfl, rfl⟩ := hcs
    simp only [Prod.mk.injEq] at hx0
    exact ⟨[], rfl, .inl rfl, by simp, .inl ⟨hx0.1, rfl⟩⟩
  · simp [Value.cells] at hcs
    obtain ⟨rfl, rfl, rfl⟩ := hcs
    simp only [Prod.mk.injEq] at hx
    obtain ⟨hd, _⟩ := hx
    simp only [if_true] at hzl
    refine ⟨zs.take len, by rw [List.length_take]; omega, ?_, fun z hz => bounds_i64 (hwz z (List.mem_of_mem_take hz)), .inr ⟨_, _, hd, by simp [lits]⟩⟩
    by_cases h0 : len = 0
    · subst h0; exact .inl (by simp)
    · obtain ⟨b, off, spot⟩ := x
      have hc := hcell 0 (by omega)
      have hspot : spot = none := by simpa [Addr.add] using World.cell?_spot hc
      subst hspot
      refine .inr ⟨b, off, rfl, World.block_lt_of_cell? _ _ hc, fun i y hy => ?_⟩
      have hi : i < len := by
        have := (List.getElem?_eq_some_iff.1 hy).1
        rw [List.length_take] at this
        omega
      rw [List.getElem?_take, if_pos hi] at hy
      have h1 := hcell i (by omega)
      have e : (⟨b, off, none⟩ : Addr).add i = ⟨b, off + i, none⟩ := by simp [Addr.add]
      rw [e] at h1
      rw [h1, List.getD_eq_getElem?_getD, hy]
      rfl

theorem bulk_pos {H : Type} (d : DataW H) : 1 ≤ Rows.uptoBulk d := by
  cases d with
  | lit l => cases l <;> simp [Rows.uptoBulk]
  | _ => simp [Rows.uptoBulk]
theorem bulk_len {H : Type} (l : List (DataW H)) : l.length ≤ Rows.uptoBulkAll l := by
  induction l with
  | nil => simp [Rows.uptoBulkAll]
  | cons d r ih =>
    have := bulk_pos d
    simp only [Rows.uptoBulkAll, List.length_cons]
    omega
/-- What the bound says of bytes that came in. -/
theorem bulk_bytes {H : Type} {d : DataW H} {bs : List Nat} (h : d = .nil ∧ bs = [] ∨ ∃ el sp, d = .slice el sp ∧ el.length = bs.length) : bs.length ≤ Rows.uptoBulk d := by
  rcases h with ⟨_, rfl⟩ | ⟨el, sp, rfl, h⟩
  · simp
  · have := bulk_len el
    simp only [Rows.uptoBulk]
    omega
theorem bulk_nums {H : Type} {d : DataW H} {zs : List Int} (h : d = .nil ∧ zs = [] ∨ ∃ el sp, d = .slice el sp ∧ el.length = zs.length) : zs.length ≤ Rows.uptoBulk d := by
  rcases h with ⟨_, rfl⟩ | ⟨el, sp, rfl, h⟩
  · simp
  · have := bulk_len el
    simp only [Rows.uptoBulk]
    omega
theorem bulk_of {H : Type} {l : List (DataW H)} (h : Rows.uptoSmall H l = true) : Rows.uptoBulkAll l ≤ 1048576 := of_decide_eq_true h

end Go.Proofs.Ytadmekikdaocoaa
