/- Package pmem: Arm of one loss that names no line. -/
import Derived.Test.YtgfgihpkbbjkfaaUhLM
import Derived.Test.YtgfgihpkbbjkfaaPNew
import Derived.Test.YtgfgihpkbbjkfaaUgMM
import Derived.Test.YtgfgihpkbbjkfaaROpen
namespace Go.Proofs.Ytgfgihpkbbjkfaa
open Go.RowKit Go.Shelf
set_option linter.unusedVariables false
set_option maxRecDepth 100000

theorem sure_of {σ : St} {p x : Nat} (h : σ.past (p / 64) = []) (hb : σ.bytes[p]? = some x) : Sure σ p x := by
  refine ⟨?_, fun c hc => by rw [h] at hc; cases hc⟩
  show (σ.line (p / 64))[p % 64]? = some x
  rw [line_get (by omega), show 64 * (p / 64) + p % 64 = p by omega]
  exact hb
/-- A byte of an extent. -/
def Cov (rs : List (Nat × List Nat)) (p : Nat) : Prop := ∃ r ∈ rs, r.1 ≤ p ∧ p < r.1 + r.2.length
/-- All bytes but those of extents are these, in every content. -/
structure Dirty (N : Nat) (C : List Nat) (rs : List (Nat × List Nat)) (σ : St) : Prop where
  ok : σ.Ok
  n : σ.n = N
  sure : ∀ p x, p < 64 * N → ¬ Cov rs p → C[p]? = some x → Sure σ p x
/-- An operation that keeps the bytes beside extents. -/
def KeepU (N : Nat) (rs : List (Nat × List Nat)) (f : St → St) : Prop := ∀ p x, p < 64 * N → ¬ Cov rs p → EvF N (p / 64) (fun c => c[p % 64]? = some x) f
theorem keep_fls {N : Nat} {rs : List (Nat × List Nat)} (ls : List Nat) : ∀ f ∈ fls ls, KeepU N rs f := fun f hf p x _ _ => evf_fl ls f hf
theorem keep_fn {N : Nat} {rs : List (Nat × List Nat)} : KeepU N rs fnA := fun p x _ _ => evf_fn
theorem evf_sure {N p x at_ : Nat} {bs : List Nat} (hp : p < 64 * N) (hN : N ≤ 65536) (hl : at_ + bs.length ≤ 64 * N) (hno : p < at_ ∨ at_ + bs.length ≤ p) : ∀ f ∈ wds bs at_ (wordsOf at_ bs.length), EvF N (p / 64) (fun c => c[p % 64]? = some x) f := by
  intro f hf
  obtain ⟨no, hn, rfl⟩ := List.mem_map.1 hf
  obtain ⟨h1, h2⟩ := mem_wordsOf (by omega) hn
  have h3 := wordsOf_max (by omega) no hn
  intro σ hok hσ h
  exact Sure.word (bs := bs) (at_ := at_) (no := no) hok (by omega) (by omega) h hno h3
theorem keep_wds {N at_ : Nat} {bs : List Nat} {rs : List (Nat × List Nat)} (hN : N ≤ 65536) (hl : at_ + bs.length ≤ 64 * N) (hc : ∀ p, at_ ≤ p → p < at_ + bs.length → Cov rs p) : ∀ f ∈ wds bs at_ (wordsOf at_ bs.length), KeepU N rs f := fun f hf p x hp hn =>
  evf_sure hp hN hl (by
    by_cases h1 : p < at_
    · exact .inl h1
    · by_cases h2 : at_ + bs.length ≤ p
      · exact .inr h2
      · exact absurd (hc p (by omega) (by omega)) hn) f hf
theorem Dirty.run {N : Nat} {C : List Nat} {rs : List (Nat × List Nat)} {fs : List (St → St)} {σ s : St} {c : Int} (h : Dirty N C rs σ) (hg : ∀ f ∈ fs, GoodF N f) (hk : ∀ f ∈ fs, KeepU N rs f) (ho : σ.ops + fs.length ≤ 1400000000000) (hr : RunD fs σ c s) :
    Dirty N C rs s ∧ (c = 0 ∧ LikeG σ s fs.length ∧ s = acts fs σ ∨ c = 5 ∧ s.off = true ∧ s.arms = σ.arms.tail ∧ σ.arms ≠ [] ∧ s.cnt = 0 ∧ s.ops ≤ σ.ops + fs.length ∧ ∀ j, s.past j = []) := by
  rcases id hr with ⟨rfl, rfl⟩ | ⟨rfl, ha, _⟩
  · have hl := acts_like fs σ hg h.ok h.n ho
    refine ⟨⟨hl.ok, hl.n.trans h.n, fun p x hp hn hx => ?_⟩, .inl ⟨rfl, hl, rfl⟩⟩
    exact acts_every (i := p / 64) (P := fun c => c[p % 64]? = some x) fs σ hg (fun f hf => hk f hf p x hp hn) h.ok h.n ho (h.sure p x hp hn hx)
  · obtain ⟨r1, r2, r3, r4, r5, r6, r7, r8⟩ := run_len hg h.ok h.n ho hr
    refine ⟨⟨r8, r1, fun p x hp hn hx => sure_of (r3 _) ?_⟩, .inr ⟨rfl, r4, r5, ha, r6, r7, r3⟩⟩
    have h1 := run_every (i := p / 64) (P := fun c => c[p % 64]? = some x) hg (fun f hf => hk f hf p x hp hn) h.ok h.n ho (by omega) (h.sure p x hp hn hx) hr
    rw [line_get (by omega), show 64 * (p / 64) + p % 64 = p by omega] at h1
    exact h1
/-- All bytes beside the log are these, and its number is 0. -/
structure Clean (N a z : Nat) (B : List Nat) (σ : St) : Prop where
  ok : σ.Ok
  n : σ.n = N
  out : ∀ p x, p < 64 * N → p < a ∨ a + z ≤ p → B[p]? = some x → Sure σ p x
  num : ∀ p, a ≤ p → p < a + 8 → Sure σ p 0
theorem Due.word {bs : List Nat} {at_ no j : Nat} {σ : St} (h : Due σ j) (hne : no / 8 ≠ j) : Due (wordA bs at_ σ no) j := by
  have e1 : (wordA bs at_ σ no).past j = σ.past j := by show (if j = no / 8 then _ else _) = _; rw [if_neg (fun e => hne e.symm)]
  have e2 : (wordA bs at_ σ no).fl j = σ.fl j := rfl
  unfold Due
  rw [e1, e2]
  exact h
theorem wds_due {bs : List Nat} {at_ j : Nat} : ∀ (nos : List Nat) (σ : St), (∀ no ∈ nos, no / 8 ≠ j) → Due σ j → Due (acts (wds bs at_ nos) σ) j
  | [], σ, _, h => h
  | no :: nos, σ, hn, h => wds_due nos (tick (wordA bs at_ σ no)) (fun x hx => hn x (by simp [hx])) (Due.word (bs := bs) (at_ := at_) h (hn no (by simp)))
theorem bck_due {r : Nat × List Nat} {j : Nat} {σ : St} (hr : r.1 + r.2.length ≤ 4194304) (hr1 : 1 ≤ r.2.length) (h : j ∈ linesOf r.1 r.2.length ∨ Due σ j) : Due (acts (bckF r.1 r.2) σ) j := by
  unfold bckF
  rw [acts_append]
  by_cases hj : j ∈ linesOf r.1 r.2.length
  · exact fls_due _ _ j (.inl hj)
  · refine fls_due _ _ j (.inr (wds_due _ σ (fun no hno e => hj ?_) (h.resolve_left hj)))
    obtain ⟨h1, h2⟩ := mem_wordsOf hr hno
    have h3 := wordsOf_max hr no hno
    have h4 : r.1 ≤ max r.1 (no * 8) := by omega
    have h5 := mem_linesOf (at_ := r.1) (n := r.2.length) (i := max r.1 (no * 8) - r.1) hr (by omega)
    rw [show (r.1 + (max r.1 (no * 8) - r.1)) / 64 = j by omega] at h5
    exact h5
theorem rol_due {j : Nat} : ∀ (rs : List (Nat × List Nat)) (σ : St), (∀ r ∈ rs, r.1 + r.2.length ≤ 4194304 ∧ 1 ≤ r.2.length) → ((∃ r ∈ rs, j ∈ linesOf r.1 r.2.length) ∨ Due σ j) → Due (acts (rs.flatMap (fun r => bckF r.1 r.2)) σ) j
  | [], σ, _, h => h.resolve_left (by rintro ⟨r, hr, _⟩; cases hr)
  | r :: t, σ, hr, h => by
    rw [List.flatMap_cons, acts_append]
    refine rol_due t _ (fun q hq => hr q (by simp [hq])) ?_
    rcases h with ⟨q, hq, hj⟩ | h
    · rcases List.mem_cons.1 hq with rfl | hq
      · exact .inr (bck_due (hr q (by simp)).1 (hr q (by simp)).2 (.inl hj))
      · exact .inl ⟨q, hq, hj⟩
    · exact .inr (bck_due (hr r (by simp)).1 (hr r (by simp)).2 (.inr h))
theorem rolS_get {B : List Nat} {p : Nat} : ∀ (rs : List (Nat × List Nat)) (C : List Nat), (∀ r ∈ rs, r.1 + r.2.length ≤ C.length ∧ r.2 = (B.drop r.1).take r.2.length) → (Cov rs p ∨ C[p]? = B[p]?) → (rolS rs C)[p]? = B[p]?
  | [], C, _, h => h.resolve_left (by rintro ⟨r, hr, _⟩; cases hr)
  | r :: t, C, hr, h => by
    obtain ⟨h1, h2⟩ := hr r (by simp)
    have hl := splice_len C r.2 r.1 h1
    refine rolS_get t (splice C r.1 r.2) (fun q hq => by rw [hl]; exact hr q (by simp [hq])) ?_
    have hin : r.1 ≤ p → p < r.1 + r.2.length → (splice C r.1 r.2)[p]? = B[p]? := fun h3 h4 => by
      rw [splice_get _ _ _ _ h1, if_neg (by omega), if_pos h4, h2, List.getElem?_take, if_pos (by omega), List.getElem?_drop]
      congr 1
      omega
    by_cases hc : r.1 ≤ p ∧ p < r.1 + r.2.length
    · exact .inr (hin hc.1 hc.2)
    · rcases h with ⟨q, hq, hj⟩ | h
      · rcases List.mem_cons.1 hq with rfl | hq
        · exact absurd hj hc
        · exact .inl ⟨q, hq, hj⟩
      · right
        rw [splice_get _ _ _ _ h1]
        split
        · exact h
        · rw [if_neg (by omega)]
          exact h
theorem every_line {σ : St} {i : Nat} {f : Nat → Nat} (hok : σ.Ok) (hi : i < σ.n) (h : ∀ p, p / 64 = i → Sure σ p (f p)) : Every σ i (· = σ.line i) := by
  refine ⟨rfl, fun c hc => ?_⟩
  refine List.ext_getElem? fun k => ?_
  by_cases hk : k < 64
  · have h1 := h (64 * i + k) (by omega)
    have e1 : (64 * i + k) / 64 = i := by omega
    have e2 : (64 * i + k) % 64 = k := by omega
    unfold Sure at h1
    rw [e1, e2] at h1
    rw [h1.2 c hc, h1.1]
  · have h1 := line_len hok hi
    have h2 := hok.clen i c hc
    rw [List.getElem?_eq_none (by omega), List.getElem?_eq_none (by omega)]
/-- What a Rollback leaves: all is brought back; or the power went, and it is as it was, or all is brought back. -/
theorem roll_brings {N a z : Nat} {B C : List Nat} {rs : List (Nat × List Nat)} {σ s : St} {c : Int} (h : Dirty N C rs σ) (hN : N ≤ 65536) (hBl : B.length = 64 * N) (hCl : C.length = 64 * N) (ha6 : a % 64 = 0) (hz : 8 ≤ z) (haz : a + z ≤ 64 * N)
    (hCB : ∀ p, p < a ∨ a + z ≤ p → C[p]? = B[p]?) (hrs : ∀ r ∈ rs, Bk1 N r ∧ r.2 = (B.drop r.1).take r.2.length ∧ (r.1 + r.2.length ≤ a ∨ a + z ≤ r.1)) (hops : σ.ops + 2 * recsLen rs + 30000000 ≤ 1400000000000) (hr : RunD (rolF a rs) σ c s) :
    (c = 0 ∧ Clean N a z B s ∧ LikeG σ s (rolF a rs).length) ∨ (c = 5 ∧ (Dirty N C rs s ∨ Clean N a z B s) ∧ s.off = true ∧ s.arms = σ.arms.tail ∧ σ.arms ≠ [] ∧ s.cnt = 0 ∧ s.ops ≤ σ.ops + (rolF a rs).length ∧ ∀ j, s.past j = []) := by
  have hlen4 : ∀ r ∈ rs.reverse, r.1 + r.2.length ≤ 4194304 ∧ 1 ≤ r.2.length := fun r hr => by have h1 := (hrs r (List.mem_reverse.1 hr)).1.2.1; have h2 := (hrs r (List.mem_reverse.1 hr)).1.1; omega
  have hbk : ∀ r ∈ rs, Bk1 N r := fun r hr => (hrs r hr).1
  have hbr : ∀ r ∈ rs.reverse, Bk1 N r := fun r hr => hbk r (List.mem_reverse.1 hr)
  have f0 := flat_le hN rs.reverse hbr
  rw [← rolB_all] at f0
  have erl : recsLen rs.reverse = recsLen rs := recsLen_rev rs
  have p1 := pub_few (v := 0) (at_ := a) (by omega)
  have g0 := rolB_good hN hbk rs.length
  have k0 : ∀ f ∈ rolB rs rs.length, KeepU N rs f := fun f hf => by
    rw [rolB_all] at hf
    obtain ⟨r, hr, hf⟩ := List.mem_flatMap.1 hf
    have hrm := List.mem_reverse.1 hr
    rcases List.mem_append.1 hf with h1 | h1
    · exact keep_wds hN (hbk r hrm).2.1 (fun p h2 h3 => ⟨r, hrm, h2, h3⟩) f h1
    · exact keep_fls _ f h1
  have g1 : ∀ f ∈ ([fnA] : List (St → St)), GoodF N f := fun f hf => by rw [List.mem_singleton.1 hf]; exact fn_good
  have k1 : ∀ f ∈ ([fnA] : List (St → St)), KeepU N rs f := fun f hf => by rw [List.mem_singleton.1 hf]; exact keep_fn
  have g2 := pub_good (N := N) (v := 0) (at_ := a) (by omega) hN
  obtain ⟨D2, hc2⟩ := h.run g0 k0 (by omega) (.inl ⟨rfl, rfl⟩)
  obtain ⟨_, l2, _⟩ := hc2.resolve_right (fun h => by cases h.1)
  have o2 := l2.ops
  obtain ⟨D3, hc3⟩ := D2.run g1 k1 (by simp; omega) (.inl ⟨rfl, rfl⟩)
  obtain ⟨_, l3, _⟩ := hc3.resolve_right (fun h => by cases h.1)
  have o3 := l3.ops
  have hl1 : ([fnA] : List (St → St)).length = 1 := rfl
  obtain ⟨_, b2⟩ := rol_like hN rs.reverse σ hbr h.ok h.n (by omega)
  rw [← rolB_all] at b2
  have b3 := fn_bytes (acts (rolB rs rs.length) σ)
  have hcov : ∀ p x, Cov rs p → B[p]? = some x → Sure (acts [fnA] (acts (rolB rs rs.length) σ)) p x := fun p x hp hx => by
    obtain ⟨r, hr, h1, h2⟩ := hp
    have hbr2 := (hbk r hr).2.1
    have hj : p / 64 ∈ linesOf r.1 r.2.length := by
      have := mem_linesOf (at_ := r.1) (n := r.2.length) (i := p - r.1) (by omega) (by omega)
      rwa [show r.1 + (p - r.1) = p by omega] at this
    have hd : Due (acts (rolB rs rs.length) σ) (p / 64) := by
      rw [rolB_all]
      exact rol_due rs.reverse σ hlen4 (.inl ⟨r, List.mem_reverse.2 hr, hj⟩)
    refine sure_of (fence_one hd (fun k hk => (l2.ok.flp _ k hk).2)) ?_
    rw [b3, b2, rolS_get (B := B) rs.reverse σ.bytes (fun q hq => ⟨by rw [h.ok.len, h.n]; exact (hbr q hq).2.1, (hrs q (List.mem_reverse.1 hq)).2.1⟩) (.inl ⟨r, List.mem_reverse.2 hr, h1, h2⟩)]
    exact hx
  have hdec : ∀ p, Cov rs p ∨ ¬ Cov rs p := fun p => Classical.em _
  have hall : ∀ p, p < 64 * N → ∃ x, Sure (acts [fnA] (acts (rolB rs rs.length) σ)) p x := fun p hp => by
    rcases hdec p with hcv | hcv
    · exact ⟨_, hcov p _ hcv (List.getElem?_eq_getElem (by omega))⟩
    · exact ⟨_, D3.sure p _ hp hcv (List.getElem?_eq_getElem (by omega))⟩
  have hout : ∀ p x, p < 64 * N → p < a ∨ a + z ≤ p → B[p]? = some x → Sure (acts [fnA] (acts (rolB rs rs.length) σ)) p x := fun p x hp ho hx => by
    rcases hdec p with hcv | hcv
    · exact hcov p x hcv hx
    · exact D3.sure p x hp hcv (by rw [hCB p ho]; exact hx)
  have hE : ∀ i, i < N → Every (acts [fnA] (acts (rolB rs rs.length) σ)) i (· = (acts [fnA] (acts (rolB rs rs.length) σ)).line i) := fun i hi => by
    refine every_line (f := fun p => ((acts [fnA] (acts (rolB rs rs.length) σ)).bytes[p]?).getD 0) D3.ok (by rw [D3.n]; exact hi) (fun p hp => ?_)
    obtain ⟨x, hx⟩ := hall p (by omega)
    rw [hx.seen]
    exact hx
  have h8 : (leB 8 0).length = 8 := leB_length 8 0
  have hb3l : (acts [fnA] (acts (rolB rs rs.length) σ)).bytes.length = 64 * N := by rw [D3.ok.len, D3.n]
  have hsp : ∀ p x, p < 64 * N → p < a ∨ a + z ≤ p → B[p]? = some x → (splice (acts [fnA] (acts (rolB rs rs.length) σ)).bytes a (leB 8 0))[p]? = some x := fun p x hp ho hx => by
    rw [splice_get _ _ _ _ (by omega)]
    split
    · exact (hout p x hp ho hx).seen
    · rw [if_neg (by omega)]
      exact (hout p x hp ho hx).seen
  have hsn : ∀ p, a ≤ p → p < a + 8 → (splice (acts [fnA] (acts (rolB rs rs.length) σ)).bytes a (leB 8 0))[p]? = some 0 := fun p h1 h2 => by
    rw [splice_get _ _ _ _ (by omega), if_neg (by omega), if_pos (by omega)]
    have e : leB 8 0 = [0, 0, 0, 0, 0, 0, 0, 0] := by decide
    rw [e]
    have h3 : p - a < 8 := by omega
    generalize p - a = q at h3
    match q, h3 with
    | 0, _ => rfl
    | 1, _ => rfl
    | 2, _ => rfl
    | 3, _ => rfl
    | 4, _ => rfl
    | 5, _ => rfl
    | 6, _ => rfl
    | 7, _ => rfl
  have hfl : (rolF a rs).length = (rolB rs rs.length).length + (1 + (pubF 0 a).length) := by unfold rolF; rw [List.length_append, List.length_append]; rfl
  have e : acts (rolF a rs) σ = acts (pubF 0 a) (acts [fnA] (acts (rolB rs rs.length) σ)) := by
    unfold rolF
    rw [acts_append, acts_append]
  rcases id hr with ⟨rfl, rfl⟩ | ⟨rfl, ha, _⟩
  · left
    have l4 := acts_like (N := N) (pubF 0 a) (acts [fnA] (acts (rolB rs rs.length) σ)) g2 D3.ok D3.n (by omega)
    have b4 := pub_bytes (v := 0) (at_ := a) D3.ok (by rw [D3.n]; omega) (by omega)
    have hpast : (acts (pubF 0 a) (acts [fnA] (acts (rolB rs rs.length) σ))).past (a / 64) = [] := by
      have e2 : pubF 0 a = wds (leB 8 0) a (wordsOf a 8) ++ rngF a 8 := rfl
      rw [e2, acts_append]
      have lw := acts_like (N := N) (wds (leB 8 0) a (wordsOf a 8)) (acts [fnA] (acts (rolB rs rs.length) σ)) (fun f hf => g2 f (by rw [e2]; exact List.mem_append_left _ hf)) D3.ok D3.n (by rw [e2, List.length_append] at p1; omega)
      have ow := lw.ops
      refine rng_one (N := N) lw.ok (lw.n.trans D3.n) (by rw [e2, List.length_append] at p1; omega) ?_
      have := mem_linesOf (at_ := a) (n := 8) (i := 0) (by omega) (by omega)
      rwa [Nat.add_zero] at this
    rw [e]
    refine ⟨rfl, ⟨l4.ok, l4.n.trans D3.n, fun p x hp ho hx => ?_, fun p hp1 hp2 => sure_of ?_ ?_⟩, ?_⟩
    · refine acts_every (i := p / 64) (P := fun c => c[p % 64]? = some x) (pubF 0 a) _ g2 (fun f hf => ?_) D3.ok D3.n (by omega) (hout p x hp ho hx)
      unfold pubF at hf
      rcases List.mem_append.1 hf with h1 | h1
      · have h2 := evf_sure (N := N) (p := p) (x := x) (at_ := a) (bs := leB 8 0) hp hN (by omega) (by omega)
        rw [h8] at h2
        exact h2 f h1
      · rcases List.mem_append.1 h1 with h1 | h1
        · exact evf_fl _ f h1
        · rw [List.mem_singleton.1 h1]
          exact evf_fn
    · rw [show p / 64 = a / 64 by omega]
      exact hpast
    · rw [b4]
      exact hsn p hp1 hp2
    · rw [hfl]
      exact like_trans l2 (like_trans l3 l4)
  · right
    have hl := run_len (N := N) (fs := rolF a rs) (fun f hf => by
      unfold rolF at hf
      rcases List.mem_append.1 hf with h1 | h1
      · exact g0 f h1
      · rcases List.mem_append.1 h1 with h1 | h1
        · exact g1 f h1
        · exact g2 f h1) h.ok h.n (by omega) hr
    obtain ⟨r1, r2, r3, r4, r5, r6, r7, r8⟩ := hl
    refine ⟨rfl, ?_, r4, r5, ha, r6, r7, r3⟩
    unfold rolF at hr
    rcases RunD.split g0 h.ok h.n (by omega) hr with h1 | h1
    · exact .inl (h.run g0 k0 (by omega) h1).1
    · rcases RunD.split g1 D2.ok D2.n (by simp; omega) h1 with h1 | h1
      · exact .inl (D2.run g1 k1 (by simp; omega) h1).1
      · rcases pub_lost D3.ok D3.n hE ha6 (by omega) (by omega) h1 with e2 | e2
        · refine .inl ⟨r8, r1, fun p x hp hn hx => sure_of (r3 _) ?_⟩
          rw [e2]
          exact (D3.sure p x hp hn hx).seen
        · exact .inr ⟨r8, r1, fun p x hp ho hx => sure_of (r3 _) (by rw [e2]; exact hsp p x hp ho hx), fun p h1 h2 => sure_of (r3 _) (by rw [e2]; exact hsn p h1 h2)⟩
/-- A loss of power leaves what is clean clean. -/
theorem Clean.lost {N a z : Nat} {B : List Nat} {σ s : St} {kp : List Nat} (h : Clean N a z B σ) (haz : a + z ≤ 64 * N) (hz : 8 ≤ z) (hl : Lost σ kp s) (hok : s.Ok) : Clean N a z B s :=
  ⟨hok, hl.n.trans h.n, fun p x hp ho hx => sure_of (by rw [hl.past]) (Sure.lost hl (by rw [h.n]; omega) (h.out p x hp ho hx)), fun p h1 h2 => sure_of (by rw [hl.past]) (Sure.lost hl (by rw [h.n]; omega) (h.num p h1 h2))⟩
theorem Clean.number {N a z : Nat} {B : List Nat} {σ : St} (h : Clean N a z B σ) : leV ((σ.bytes.drop a).take 8) = 0 := by
  have e : (σ.bytes.drop a).take 8 = leB 8 0 := by
    refine List.ext_getElem? fun k => ?_
    rw [List.getElem?_take]
    by_cases hk : k < 8
    · rw [if_pos hk, List.getElem?_drop, (h.num (a + k) (by omega) (by omega)).seen]
      have e8 : leB 8 0 = [0, 0, 0, 0, 0, 0, 0, 0] := by decide
      rw [e8]
      match k, hk with
      | 0, _ => rfl
      | 1, _ => rfl
      | 2, _ => rfl
      | 3, _ => rfl
      | 4, _ => rfl
      | 5, _ => rfl
      | 6, _ => rfl
      | 7, _ => rfl
    · rw [if_neg hk, List.getElem?_eq_none (by rw [leB_length]; omega)]
  rw [e]
  exact leV_of (by omega)
theorem Dirty.log {N a z : Nat} {C : List Nat} {rs : List (Nat × List Nat)} {σ : St} (h : Dirty N C rs σ) (hCl : C.length = 64 * N) (haz : a + z ≤ 64 * N) (hrs : ∀ r ∈ rs, r.1 + r.2.length ≤ a ∨ a + z ≤ r.1) (p n : Nat) (hp : a ≤ p) (hn : p + n ≤ a + z) : (σ.bytes.drop p).take n = (C.drop p).take n := by
  refine List.ext_getElem? fun k => ?_
  rw [List.getElem?_take, List.getElem?_take]
  split
  · rw [List.getElem?_drop, List.getElem?_drop, List.getElem?_eq_getElem (l := C) (by omega)]
    refine (h.sure (p + k) _ (by omega) ?_ (List.getElem?_eq_getElem (by omega))).seen
    rintro ⟨r, hr, h1, h2⟩
    have := hrs r hr
    omega
  · rfl
end Go.Proofs.Ytgfgihpkbbjkfaa
namespace Go.Proofs.Ytgfgihpkbbjkfaa
open Go.RowKit Go.Shelf
set_option linter.unusedVariables false
set_option maxRecDepth 100000

theorem take_of_lines {s σ : St} {m N : Nat} (hs : s.bytes.length = 64 * N) (hσ : σ.bytes.length = 64 * N) (h : ∀ i, i < m → i < N → s.line i = σ.line i) : s.bytes.take (64 * m) = σ.bytes.take (64 * m) := by
  refine List.ext_getElem? fun k => ?_
  rw [List.getElem?_take, List.getElem?_take]
  split
  · by_cases hk : k < 64 * N
    · have e := h (k / 64) (by omega) (by omega)
      have h1 := line_get (σ := s) (i := k / 64) (k := k % 64) (by omega)
      have h2 := line_get (σ := σ) (i := k / 64) (k := k % 64) (by omega)
      rw [show 64 * (k / 64) + k % 64 = k by omega] at h1 h2
      rw [← h1, ← h2, e]
    · rw [List.getElem?_eq_none (by omega), List.getElem?_eq_none (by omega)]
  · rfl
theorem drop_of_lines {s σ : St} {m N : Nat} (hs : s.bytes.length = 64 * N) (hσ : σ.bytes.length = 64 * N) (h : ∀ i, m ≤ i → i < N → s.line i = σ.line i) : s.bytes.drop (64 * m) = σ.bytes.drop (64 * m) := by
  refine List.ext_getElem? fun k => ?_
  rw [List.getElem?_drop, List.getElem?_drop]
  by_cases hk : 64 * m + k < 64 * N
  · have e := h ((64 * m + k) / 64) (by omega) (by omega)
    have h1 := line_get (σ := s) (i := (64 * m + k) / 64) (k := (64 * m + k) % 64) (by omega)
    have h2 := line_get (σ := σ) (i := (64 * m + k) / 64) (k := (64 * m + k) % 64) (by omega)
    rw [show 64 * ((64 * m + k) / 64) + (64 * m + k) % 64 = 64 * m + k by omega] at h1 h2
    rw [← h1, ← h2, e]
  · rw [List.getElem?_eq_none (by omega), List.getElem?_eq_none (by omega)]
theorem splice_lo {B c : List Nat} {at_ p : Nat} (h : at_ + c.length ≤ B.length) (hp : p ≤ at_) : (splice B at_ c).take p = B.take p := by
  refine List.ext_getElem? fun k => ?_
  rw [List.getElem?_take, List.getElem?_take]
  split
  · rw [splice_get _ _ _ _ h, if_pos (by omega)]
  · rfl
theorem splice_hi {B c : List Nat} {at_ p : Nat} (h : at_ + c.length ≤ B.length) (hp : at_ + c.length ≤ p) : (splice B at_ c).drop p = B.drop p := by
  refine List.ext_getElem? fun k => ?_
  rw [List.getElem?_drop, List.getElem?_drop, splice_get _ _ _ _ h, if_neg (by omega), if_neg (by omega)]
/-- What is seen then: c is what Write answered. -/
structure Aft (B : List Nat) (xs : List (Int × Int)) (c : Int) (C : List Nat) : Prop where
  res : ∃ rs, (rs = recL B xs ∨ (rs = [] ∧ c = 5)) ∧ leV ((C.drop 128).take 8) = rs.length ∧ RecsAt 128 384 16 C 192 rs
  lo : C.take 128 = B.take 128
  hi : C.drop 512 = B.drop 512
theorem aft_full {B C : List Nat} {xs : List (Int × Int)} {c : Int} (hB : B.length = 1024) (hx : ∀ y ∈ xs, Fine 128 384 16 y) (hroom : (recsB B xs).length ≤ 320) (hml : xs.length ≤ 4194304) (hC : C = splice (splice B 192 (recsB B xs)) 128 (leB 8 xs.length)) : Aft B xs c C := by
  have h8 : (leB 8 xs.length).length = 8 := leB_length 8 _
  have hs1 : (splice B 192 (recsB B xs)).length = B.length := splice_len _ _ _ (by omega)
  have hn := splice_at (B := splice B 192 (recsB B xs)) (c := leB 8 xs.length) (at_ := 128) (by omega)
  rw [h8] at hn
  refine ⟨⟨recL B xs, .inl rfl, ?_, ?_⟩, ?_, ?_⟩
  · rw [hC, hn, recL_len]
    exact leV_of (by omega)
  · refine recs_at (by omega) (by omega) xs 192 hx ?_ (by omega)
    rw [hC, splice_out (by omega) (by omega)]
    exact splice_at (by omega)
  · rw [hC, splice_lo (by omega) (by omega), splice_lo (by omega) (by omega)]
  · rw [hC, splice_hi (by omega) (by omega), splice_hi (by omega) (by omega)]
theorem aft_lost {B : List Nat} {xs : List (Int × Int)} {σ s : St} (hσ : σ.bytes = B) (hB : B.length = 1024) (hs : s.bytes.length = 1024) (hnum : leV ((B.drop 128).take 8) = 0) (h : ∀ i, i < 16 → (64 * i + 64 ≤ 128 + 64 ∨ 128 + 384 ≤ 64 * i) → s.line i = σ.line i) : Aft B xs 5 s.bytes := by
  have h1 := take_of_lines (s := s) (σ := σ) (m := 3) (N := 16) (by omega) (by rw [hσ]; omega) (fun i hi hN => h i hN (by omega))
  have h2 := drop_of_lines (s := s) (σ := σ) (m := 8) (N := 16) (by omega) (by rw [hσ]; omega) (fun i hi hN => h i hN (by omega))
  rw [hσ] at h1 h2
  have e1 : (s.bytes.drop 128).take 8 = (B.drop 128).take 8 := by
    have h3 := congrArg (fun l => (l.drop 128).take 8) h1
    simp only [List.drop_take, List.take_take] at h3
    simpa using h3
  refine ⟨⟨[], .inr ⟨rfl, rfl⟩, by rw [e1, hnum]; rfl, trivial⟩, ?_, h2⟩
  have h3 := congrArg (List.take 128) h1
  rw [List.take_take, List.take_take] at h3
  exact h3
/-- Extents that are brought always have room. -/
theorem need_brought {xs : List (Int × Int)} {k : Nat} (hk : k ≤ xs.length) (hk5 : k ≤ 5) : (needX 128 384 16 (brL xs k)).2 = 0 ∧ ((needX 128 384 16 (brL xs k)).1 = 0 ↔ k = 0) := by
  have hin := brL_in (xs := xs) (i := k)
  have hlen := brL_len hk
  have hz : ∀ l ∈ (brL xs k).map Prod.snd, 1 ≤ l ∧ l ≤ 90 := fun l hl => by
    obtain ⟨y, hy, rfl⟩ := List.mem_map.1 hl
    have := hin y hy
    omega
  have hl2 : ((brL xs k).map Prod.snd).length = k := by rw [List.length_map, hlen]
  have h1 := needV_good ((brL xs k).map Prod.snd) 0 hz (by omega) (by omega)
  have h2 := needV_sum ((brL xs k).map Prod.snd) 0 h1 (fun l hl => by have := hz l hl; omega)
  have h3 : ∀ (zs : List Int), (∀ l ∈ zs, 1 ≤ l ∧ l ≤ 40) → 32 * zs.length ≤ (zs.map (fun l => rlen l.toNat)).sum ∧ (zs.map (fun l => rlen l.toNat)).sum ≤ 64 * zs.length := by
    intro zs
    induction zs with
    | nil => intro _; simp
    | cons l t ih =>
      intro h
      have h1 := ih (fun y hy => h y (by simp [hy]))
      obtain ⟨h2, h3⟩ := h l (by simp)
      have h4 : 32 ≤ rlen l.toNat ∧ rlen l.toNat ≤ 64 := by unfold rlen padN; omega
      rw [List.map_cons, List.sum_cons, List.length_cons]
      omega
  have h4 := h3 ((brL xs k).map Prod.snd) (fun l hl => by
    obtain ⟨y, hy, rfl⟩ := List.mem_map.1 hl
    have := hin y hy
    omega)
  rw [hl2] at h4
  have h5 : allMay 128 384 16 (brL xs k) = true := by
    unfold allMay
    exact List.all_eq_true.2 fun x hx => may_of_fine (brL_fine x hx)
  unfold needX
  rw [if_pos h5, if_neg (by
    rintro (h | h)
    · exact h h1
    · rw [h2] at h; omega)]
  refine ⟨rfl, ?_⟩
  simp only
  rw [h2]
  omega
end Go.Proofs.Ytgfgihpkbbjkfaa
namespace Go.Proofs.Ytgfgihpkbbjkfaa
open Go.RowKit Go.Shelf
set_option linter.unusedVariables false
set_option maxRecDepth 100000

theorem run_ops {N : Nat} {fs : List (St → St)} {σ s : St} (hg : ∀ f ∈ fs, GoodF N f) (hok : σ.Ok) (hn : σ.n = N) (ho : σ.ops + fs.length ≤ 1400000000000) (hr : RunD fs σ 5 s) : σ.ops ≤ s.ops := by
  rcases hr with ⟨e, _⟩ | ⟨_, _, pre, f, post, rfl, hop⟩
  · cases e
  · rw [List.length_append, List.length_cons] at ho
    have hl := acts_like pre σ (fun g hg' => hg g (by simp [hg'])) hok hn (by omega)
    have e0 := hl.ops
    have h3 := (hg f (by simp) (acts pre σ) hl.ok (hl.n.trans hn) (by omega)).1
    have h5 : (f (acts pre σ)).ops + 1 = (acts pre σ).ops + 1 := h3.ops
    rcases hop with ⟨_, e, _⟩ | ⟨af, kp, rest, har, ⟨_, e, _⟩ | ⟨_, _, hL⟩⟩
    · cases e
    · cases e
    · rw [hL.ops]
      show σ.ops ≤ (f (acts pre σ)).ops + 1
      omega
/-- A device, on or off, and its log. -/
structure Bw (B0 : Nat) (w : World) (gl b : Nat) (L : Lay) (σ : St) : Prop where
  dev : DevL w b L σ
  ok : σ.Ok
  log : LogL w gl b 128 384
  num : L.N + 20000000 * σ.arms.length ≤ σ.ops + 200000000
  few : Few σ
  cn : σ.cnt ≤ σ.ops
  far : ∀ k, Foot b L σ k → B0 ≤ k
  big : B0 ≤ w.heap.size
theorem Bw.dv {B0 gl b : Nat} {w : World} {L : Lay} {σ : St} (h : Bw B0 w gl b L σ) (ho : σ.off = false) : Dv w b L σ := ⟨h.dev, h.ok, ho, by have := h.num; omega, h.few, h.cn⟩
theorem Bw.below {B0 gl b : Nat} {w w' : World} {L : Lay} {σ : St} (h : Bw B0 w gl b L σ) (hB : Below w.heap.size w w') : Bw B0 w' gl b L σ := ⟨h.dev.below hB, h.ok, h.log.below hB, h.num, h.few, h.cn, h.far, Nat.le_trans h.big hB.size⟩
/-- Behind a step. -/
structure Bst (B0 : Nat) (w : World) (gl b : Nat) (σ : St) (C : List Nat) (rs : List (Nat × List Nat)) (w' : World) (c : Int) (L' : Lay) (s : St) (m : Nat) : Prop where
  bw : Bw B0 w' gl b L' s
  dir : Dirty 16 C rs s
  code : c = 0 ∧ s.off = false ∨ c = 5 ∧ s.off = true
  arms : s.arms.length ≤ σ.arms.length
  ops : s.ops ≤ σ.ops + m
  kp : Kp8 B0 w w'
section
variable {B0 gl b m : Nat} {w w' : World} {L : Lay} {σ s : St} {C : List Nat} {rs : List (Nat × List Nat)} {c : Int}
theorem Bw.kp8 (h : Bw B0 w gl b L σ) (hg : Gr (Foot b L σ) w w') : Kp8 B0 w w' :=
  ⟨⟨hg.1, hg.2.1, hg.2.2.1, hg.size, fun k hk => hg.block (by have := h.big; omega) (fun hf => by have := h.far k hf; omega)⟩, fun k c t f hc ht => hg.keep hc (foot_nd h.dev hc ht)⟩
theorem Bw.step {fs : List (St → St)} (h : Bw B0 w gl b L σ) (D : Dirty 16 C rs σ) (ho : σ.off = false) (ha : Atd w b L σ w' s m) (hm : fs.length = m) (hm2 : m ≤ 20000000) (hops : σ.ops + m < 1400000000000) (hr : RunD fs σ c s) (hg : ∀ f ∈ fs, GoodF 16 f) (hk : ∀ f ∈ fs, KeepU 16 rs f) :
    ∃ L', Bst B0 w gl b σ C rs w' c L' s m := by
  obtain ⟨D', hc⟩ := D.run hg hk (by omega) hr
  have hkp := h.kp8 ha.1
  obtain ⟨hgr, L', hd, hf, hN⟩ := ha
  have h1 := h.num
  have h2 := h.cn
  have h3 := h.few.cnt
  have hfar : ∀ k, Foot b L' s k → B0 ≤ k := fun k hk => (hf k hk).elim (h.far k) (fun hk => Nat.le_trans h.big hk)
  have hbig := Nat.le_trans h.big hgr.size
  have hlog : LogL w' gl b 128 384 := hgr.keep h.log (foot_nd h.dev h.log log_nd)
  rcases hc with ⟨rfl, hl, _⟩ | ⟨rfl, r1, r2, r3, r4, r5, _⟩
  · have h4 := hl.ops
    have h5 := hl.cnt
    refine ⟨L', ⟨hd, hl.ok, hlog, by rw [hl.arms]; omega, ⟨by rw [hl.arms]; exact h.few.one, ?_⟩, ?_, hfar, hbig⟩, D', .inl ⟨rfl, hl.off.trans ho⟩, by rw [hl.arms]; exact Nat.le_refl _, by omega, hkp⟩
    · have := hl.ok.opsm
      rw [h5]
      split <;> omega
    · rw [h5]
      split <;> omega
  · have h6 := run_ops hg D.ok D.n (by omega) hr
    have h7 : σ.arms.length = σ.arms.tail.length + 1 := by
      cases hA : σ.arms with
      | nil => exact absurd hA r3
      | cons a t => rfl
    refine ⟨L', ⟨hd, D'.ok, hlog, by rw [r2]; omega, ⟨fun a ha => ?_, by rw [r4]; omega⟩, by rw [r4]; omega, hfar, hbig⟩, D', .inr ⟨rfl, r1⟩, by rw [r2]; omega, by omega, hkp⟩
    rw [r2] at ha
    exact h.few.one a (List.mem_of_mem_tail ha)
theorem bw_store {ad : Addr} {bs : List Nat} (at_ cap : Nat) (h : Bw B0 w gl b L σ) (D : Dirty 16 C rs σ) (ho : σ.off = false) (hops : σ.ops + 30000000 ≤ 1400000000000) (hsl : Sl w (some ad) bs) (hcap : bs.length ≤ cap) (hlen : at_ + bs.length ≤ 1024) (hcv : ∀ p, at_ ≤ p → p < at_ + bs.length → Cov rs p) {cc : Array Value} {t : TypeId} {f : Nat × Nat} (had : w.heap[ad.block]? = some (.cells cc t f)) (ht : NDt t) :
    Calls Try.prog 20 #[.pointer (some ⟨b, 0, none⟩), .int .i64 (at_ : Int), .slice (some ad) bs.length cap] w fun e w' => ∃ c, e = .returned (.int .i64 c) ∧ ∃ L' s, Bst B0 w gl b σ C rs w' c L' s 1100 := by
  have hwl := wordsOf_few (at_ := at_) (n := bs.length) (by omega)
  have hn := D.n
  refine (dv_store at_ cap (h.dv ho) (by omega) hsl hcap (by omega) (fun ad' e => by cases e; exact ⟨lt_of_heap had, foot_nd h.dev had ht⟩)).mono ?_
  rintro e w' ⟨c, s, rfl, hr, ha⟩
  obtain ⟨L', hL⟩ := h.step D ho ha (wds_len _ _ _) (by omega) (by omega) hr (wds_good hsl.lt (wordsOf_lt (m := 16) (by omega) (by omega))) (keep_wds (by omega) (by omega) hcv)
  exact ⟨c, rfl, L', s, hL.bw, hL.dir, hL.code, hL.arms, by have := hL.ops; omega, hL.kp⟩
theorem bw_flush (at_ : Nat) (h : Bw B0 w gl b L σ) (D : Dirty 16 C rs σ) (ho : σ.off = false) (hops : σ.ops + 30000000 ≤ 1400000000000) (hat : at_ < 1024) :
    Calls Try.prog 40 #[.pointer (some ⟨b, 0, none⟩), .int .i64 (at_ : Int)] w fun e w' => ∃ c, e = .returned (.int .i64 c) ∧ ∃ L' s, Bst B0 w gl b σ C rs w' c L' s 1 := by
  have hn := D.n
  refine (dv_flush (h.dv ho) at_ (by omega) (by omega)).mono ?_
  rintro e w' ⟨c, s, rfl, hr, ha⟩
  obtain ⟨L', hL⟩ := h.step D ho ha rfl (by omega) (by omega) hr (fls_good [at_ / 64]) (keep_fls [at_ / 64])
  exact ⟨c, rfl, L', s, hL⟩
theorem bw_fence (h : Bw B0 w gl b L σ) (D : Dirty 16 C rs σ) (ho : σ.off = false) (hops : σ.ops + 30000000 ≤ 1400000000000) :
    Calls Try.prog 41 #[.pointer (some ⟨b, 0, none⟩)] w fun e w' => ∃ c, e = .returned (.int .i64 c) ∧ ∃ L' s, Bst B0 w gl b σ C rs w' c L' s 1 := by
  refine (dv_fence (h.dv ho) (by omega)).mono ?_
  rintro e w' ⟨c, s, rfl, hr, ha⟩
  obtain ⟨L', hL⟩ := h.step D ho ha rfl (by omega) (by omega) hr (fun f hf => by rw [List.mem_singleton.1 hf]; exact fn_good) (fun f hf => by rw [List.mem_singleton.1 hf]; exact keep_fn)
  exact ⟨c, rfl, L', s, hL⟩
end
/-- What a Rollback leaves. -/
structure Rst (B0 : Nat) (w : World) (gl b : Nat) (σ : St) (B C : List Nat) (rs : List (Nat × List Nat)) (w' : World) (c : Int) (L' : Lay) (s : St) : Prop where
  bw : Bw B0 w' gl b L' s
  code : (c = 0 ∧ s.off = false ∧ Clean 16 128 384 B s ∧ s.arms = σ.arms) ∨ (c = 5 ∧ s.off = true ∧ (Dirty 16 C rs s ∨ Clean 16 128 384 B s) ∧ s.arms.length + 1 = σ.arms.length)
  ops : s.ops ≤ σ.ops + 20000000
  kp : Kp8 B0 w w'
section
variable {B0 gl b : Nat} {w : World} {L : Lay} {σ : St} {B C : List Nat} {rs : List (Nat × List Nat)}
theorem bw_rollback (h : Bw B0 w gl b L σ) (D : Dirty 16 C rs σ) (ho : σ.off = false) (hops : σ.ops + 50000000 ≤ 1400000000000) (hBl : B.length = 1024) (hCl : C.length = 1024) (hCB : ∀ p, p < 128 ∨ 512 ≤ p → C[p]? = B[p]?) (hrs : ∀ r ∈ rs, Bk1 16 r ∧ r.2 = (B.drop r.1).take r.2.length ∧ (r.1 + r.2.length ≤ 128 ∨ 512 ≤ r.1)) (hnum : leV ((C.drop 128).take 8) = rs.length) (hrec : RecsAt 128 384 16 C 192 rs) (hk : rs.length ≤ 4194304) (hk1 : 1 ≤ rs.length) :
    Calls Try.prog 18 #[.pointer (some ⟨gl, 0, none⟩)] w fun e w' => ∃ c, e = .returned (.tuple #[.int .i64 (if c = 0 then (rs.length : Int) else 0), .int .i64 c]) ∧ ∃ L' s, Rst B0 w gl b σ B C rs w' c L' s := by
  have hn := D.n
  have hlog := D.log (a := 128) (z := 384) hCl (by omega) (fun r hr => (hrs r hr).2.2)
  have hnum2 : leV ((σ.bytes.drop 128).take 8) = rs.length := by rw [hlog 128 8 (by omega) (by omega)]; exact hnum
  have hrec2 : RecsAt 128 384 16 σ.bytes 192 rs := RecsAt.out rs 192 (fun p n hp hn => hlog p n (by omega) hn) hrec
  have htot := RecsAt.total rs 192 (by omega) hrec2
  refine (lrollback_any rs h.log (h.dv ho) (by omega) (by omega) (by omega) (by omega) (by omega) hnum2 (by rw [hn]; exact hrec2) hk hk1).mono ?_
  rintro e w' ⟨c, s, rfl, hr, ha⟩
  have hkp := h.kp8 ha.1
  obtain ⟨hgr, L', hd, hf, hN⟩ := ha
  have hfar : ∀ k, Foot b L' s k → B0 ≤ k := fun k hk => (hf k hk).elim (h.far k) (fun hk => Nat.le_trans h.big hk)
  have hbig := Nat.le_trans h.big hgr.size
  have hlog2 : LogL w' gl b 128 384 := hgr.keep h.log (foot_nd h.dev h.log log_nd)
  have h1 := h.num
  have h2 := h.cn
  have h3 := h.few.cnt
  have f0 := flat_le (N := 16) (by omega) rs.reverse (fun r hr => (hrs r (List.mem_reverse.1 hr)).1)
  rw [← rolB_all, recsLen_rev] at f0
  have p1 := pub_few (v := 0) (at_ := 128) (by omega)
  have hfl : (rolF 128 rs).length = (rolB rs rs.length).length + (1 + (pubF 0 128).length) := by unfold rolF; rw [List.length_append, List.length_append]; rfl
  rcases roll_brings (a := 128) (z := 384) D (by omega) hBl hCl (by omega) (by omega) (by omega) hCB hrs (by omega) hr with ⟨rfl, hC, hl⟩ | ⟨rfl, hDC, r1, r2, r3, r4, r5, _⟩
  · have h4 := hl.ops
    have h5 := hl.cnt
    refine ⟨0, rfl, L', s, ⟨hd, hl.ok, hlog2, by rw [hl.arms]; omega, ⟨by rw [hl.arms]; exact h.few.one, ?_⟩, ?_, hfar, hbig⟩, .inl ⟨rfl, hl.off.trans ho, hC, hl.arms⟩, by omega, hkp⟩
    · rw [h5]
      split <;> omega
    · rw [h5]
      split <;> omega
  · have h7 : σ.arms.length = σ.arms.tail.length + 1 := by
      cases hA : σ.arms with
      | nil => exact absurd hA r3
      | cons a t => rfl
    have hgall : ∀ f ∈ rolF 128 rs, GoodF 16 f := fun f hf => by
      unfold rolF at hf
      rcases List.mem_append.1 hf with h1 | h1
      · exact rolB_good (by omega) (fun r hr => (hrs r hr).1) _ f h1
      · rcases List.mem_append.1 h1 with h1 | h1
        · rw [List.mem_singleton.1 h1]; exact fn_good
        · exact pub_good (by omega) (by omega) f h1
    have h6 := run_ops hgall D.ok D.n (by omega) hr
    have hok : s.Ok := hDC.elim (fun h => h.ok) (fun h => h.ok)
    refine ⟨5, rfl, L', s, ⟨hd, hok, hlog2, by rw [r2]; omega, ⟨fun a ha => ?_, by rw [r4]; omega⟩, by rw [r4]; omega, hfar, hbig⟩, .inr ⟨rfl, r1, hDC, by rw [r2]; omega⟩, by omega, hkp⟩
    rw [r2] at ha
    exact h.few.one a (List.mem_of_mem_tail ha)
end
end Go.Proofs.Ytgfgihpkbbjkfaa
namespace Go.Proofs.Ytgfgihpkbbjkfaa
open Go.RowKit Go.Shelf
set_option linter.unusedVariables false
set_option maxRecDepth 100000

theorem story_nd : NDt 26 := ⟨by decide, by decide, by decide, by decide, by decide, by decide⟩
theorem change_nd : NDt 93 := ⟨by decide, by decide, by decide, by decide, by decide, by decide⟩
theorem SlE.kp {B0 : Nat} {w w' : World} {a : Option Addr} {xs : List (Int × Int)} (h : SlE w a xs) (hg : Kp8 B0 w w') : SlE w' a xs :=
  ⟨h.1, h.2.imp id (fun ⟨g, o, c, h1, h2, h3⟩ => ⟨g, o, c, h1, hg.keep g _ _ _ h2 ext_nd, h3⟩)⟩
/-- A change: which extent, where in it, the bytes, and whether it is flushed and fenced. -/
structure ChR where
  wh : Int
  ai : Int
  data : List Nat
  fl : Bool
  fe : Bool
/-- Changes that were handed in. -/
def SlC (w : World) (ca : Option Addr) (chs : List ChR) : Prop := (∀ x ∈ chs, (-9223372036854775808 ≤ x.wh ∧ x.wh ≤ 9223372036854775807) ∧ (-9223372036854775808 ≤ x.ai ∧ x.ai ≤ 9223372036854775807) ∧ x.data.length ≤ 1048576) ∧ (chs = [] ∨ ∃ g o, ca = some ⟨g, o, none⟩ ∧ g < w.heap.size ∧ ∀ (i : Nat) (x : ChR), chs[i]? = some x → ∃ da dc, w.cell? ⟨g, o + i * 5, none⟩ = some (.int .i64 x.wh) ∧ w.cell? ⟨g, o + i * 5 + 1, none⟩ = some (.int .i64 x.ai) ∧ w.cell? ⟨g, o + i * 5 + 2, none⟩ = some (.slice da x.data.length dc) ∧ w.cell? ⟨g, o + i * 5 + 3, none⟩ = some (.bool x.fl) ∧ w.cell? ⟨g, o + i * 5 + 4, none⟩ = some (.bool x.fe) ∧ Sl w da x.data ∧ x.data.length ≤ dc)
theorem SlC.below {w w' : World} {a : Option Addr} {xs : List ChR} (h : SlC w a xs) (hB : Below w.heap.size w w') : SlC w' a xs := by
  refine ⟨h.1, h.2.imp id ?_⟩
  rintro ⟨g, o, e, hg, hc⟩
  refine ⟨g, o, e, Nat.lt_of_lt_of_le hg hB.size, fun i x hi => ?_⟩
  obtain ⟨da, dc, h0, h1, h2, h3, h4, h5, h6⟩ := hc i x hi
  exact ⟨da, dc, (hB.cell (p := ⟨g, o + i * 5, none⟩) hg).trans h0, (hB.cell (p := ⟨g, o + i * 5 + 1, none⟩) hg).trans h1, (hB.cell (p := ⟨g, o + i * 5 + 2, none⟩) hg).trans h2, (hB.cell (p := ⟨g, o + i * 5 + 3, none⟩) hg).trans h3, (hB.cell (p := ⟨g, o + i * 5 + 4, none⟩) hg).trans h4, h5.below hB, h6⟩
theorem index_chg (g o i len cap : Nat) (hi : i < len) (w : World) : (Instr.indexAt 23 (.slice (some ⟨g, o, none⟩) len cap) (.int .i64 (i : Int))).run Try.prog w = .ok (.pointer (some ⟨g, o + i * 5, none⟩)) w :=
  index_at (t := 23) (e := 93) (sz := 5) Try.underlying23 (by kernel_rfl) g o i len cap hi w
theorem slice_upG (ad : Addr) (e n cap : Nat) (he : e ≤ n) (hn : n ≤ cap) (w : World) : (Instr.sliceAt 33 (.slice (some ad) n cap) none (some (.int .i64 (e : Int))) none).run Try.prog w = .ok (.slice (some ad) e cap) w := by
  obtain ⟨it, h1, h2⟩ := info_of (t := 5) (n := 1) (by kernel_rfl)
  have hu : Try.prog.underlying 33 = some (.slice 5) := by kernel_rfl
  have hc2 : e ≤ cap := by omega
  have ha : ad.add 0 = ad := by obtain ⟨b, o, sp⟩ := ad; cases sp <;> simp [Addr.add]
  simp [Instr.sliceAt, Instr.slice, Sem.run_bind, run_underlying hu, Instr.sliceBounds, Instr.sliceBound, asIntOf, sizeOf, typeInfo, h1, ha, hc2]
theorem Sl.take {w : World} {a : Option Addr} {bs : List Nat} (h : Sl w a bs) (n : Nat) : Sl w a (bs.take n) := by
  rcases h with h | ⟨b, o, e, hb, hs⟩
  · exact .inl (by rw [h]; simp)
  · refine .inr ⟨b, o, e, hb, fun i x hx => hs i x ?_⟩
    rw [List.getElem?_take] at hx
    split at hx
    · exact hx
    · cases hx
/-- Behind i changes. -/
structure Chs (B0 : Nat) (X : World) (gl b : Nat) (σ : St) (C : List Nat) (rs : List (Nat × List Nat)) (wr : World) (i : Nat) (L : Lay) (s : St) : Prop where
  bw : Bw B0 wr gl b L s
  dir : Dirty 16 C rs s
  arms : s.arms.length ≤ σ.arms.length
  ops : s.ops ≤ σ.ops + 1200 * i
  kp : Kp8 B0 X wr
set_option maxHeartbeats 4000000 in
theorem uchanged_any {B0 gl b k lc : Nat} {w : World} {L : Lay} {σ : St} {C : List Nat} {rs : List (Nat × List Nat)} {la ea a1 a2 : Option Addr} {bl : List (Int × Int)} {chs : List ChR} {m c m1 c1 m2 c2 : Nat} {lg : Bool} (h : Bw B0 w gl b L σ) (D : Dirty 16 C rs σ) (he : SlE w la bl) (hk : bl.length = k) (hk5 : k ≤ 5)
    (hcov : ∀ x ∈ bl, 0 ≤ x.1 ∧ 1 ≤ x.2 ∧ x.1 + x.2 ≤ 1024 ∧ ∀ p : Nat, x.1 ≤ (p : Int) → (p : Int) < x.1 + x.2 → Cov rs p) (hc : ∀ W, Kp8 B0 w W → SlC W a1 chs) (hm1 : chs.length = m1) (hm6 : m1 ≤ 1048576) (hops : σ.ops + 2000000000 ≤ 1400000000000) :
    Calls Try.prog 15 #[.pointer (some ⟨b, 0, none⟩), .slice la k lc, .agg #[.slice ea m c, .slice a1 m1 c1, .slice a2 m2 c2, .bool lg]] w fun e w' => e = .returned (.bool true) ∧ ∃ L' s, Bw B0 w' gl b L' s ∧ Dirty 16 C rs s ∧ s.arms.length ≤ σ.arms.length ∧ s.ops ≤ σ.ops + 1200 * m1 ∧ Kp8 B0 w w' := by
  have hA : Below w.heap.size w (w.alloc (.cells #[.slice ea m c, .slice a1 m1 c1, .slice a2 m2 c2, .bool lg] 26)) := (Below.refl _ w).alloc (Nat.le_refl _) _
  have hX := heap_alloc_new w (.cells #[.slice ea m c, .slice a1 m1 c1, .slice a2 m2 c2, .bool lg] 26)
  have HC := hide hc
  have HM := hide hm1
  have HCOV := hide hcov
  have HK := hide hk
  have hkA : Kp8 B0 w (w.alloc (.cells #[.slice ea m c, .slice a1 m1 c1, .slice a2 m2 c2, .bool lg] 26)) := Kp8.of_below hA h.big
  have H0 : Hid (Chs B0 (w.alloc (.cells #[.slice ea m c, .slice a1 m1 c1, .slice a2 m2 c2, .bool lg] 26)) gl b σ C rs (w.alloc (.cells #[.slice ea m c, .slice a1 m1 c1, .slice a2 m2 c2, .bool lg] 26)) 0 L σ) := ⟨h.below hA, D, Nat.le_refl _, by omega, Kp8.of_below (Below.refl _ _) (Nat.le_trans h.big hA.size)⟩
  have HSE := hide (he.kp hkA)
  have HKA := hide hkA
  clear hc hm1 hcov hk h D he hkA
  go_enter Try.func15, Try.ntmps15
  go_wp2
  generalize hXX : w.alloc (.cells #[.slice ea m c, .slice a1 m1 c1, .slice a2 m2 c2, .bool lg] 26) = X at *
  have HX := hide hX
  clear hA hX hXX
  go_loopw [7] (fun iv wr => ∃ (i : Nat) (L' : Lay) (s : St), iv = .int .i64 (i : Int) ∧ i ≤ m1 ∧ Chs B0 X gl b σ C rs wr i L' s) (fun iv _ => (m1 - (intOf iv).toNat))
  case atStart => exact ⟨0, L, σ, rfl, Nat.zero_le _, H0.out⟩
  case round =>
    obtain ⟨i, Li, si, rfl, him, hch⟩ := hrel
    have hXr := hch.kp.keep _ _ _ _ HX.out story_nd
    have cS : wr.cell? ⟨w.heap.size, 1, none⟩ = some (.slice a1 m1 c1) := cell8 hXr 1
    have ko := poff_any hch.bw.dev
    have HCH := hide hch
    have FIN : Hid (∃ L' s, Bw B0 wr gl b L' s ∧ Dirty 16 C rs s ∧ s.arms.length ≤ σ.arms.length ∧ s.ops ≤ σ.ops + 1200 * m1 ∧ Kp8 B0 w wr) := ⟨Li, si, hch.bw, hch.dir, hch.arms, by have := hch.ops; have : 1200 * i ≤ 1200 * m1 := Nat.mul_le_mul_left _ him; omega, HKA.out.trans hch.kp⟩
    clear hch
    by_cases hlt : i < m1
    · have iI : (i : Int) < (m1 : Int) := by omega
      by_cases hk0 : k = 0
      · have kI : ¬ (0 : Int) < (k : Int) := by omega
        have kD : decide ((0 : Int) < (k : Int)) = false := decide_eq_false kI
        clear ko
        go_wp2_with (fail)
        go_ret
        exact ⟨rfl, FIN.out⟩
      · have kI : (0 : Int) < (k : Int) := by omega
        rcases hoff : si.off with _ | _
        · rw [hoff] at ko
          have KO := hide ko
          have HOFF := hide hoff
          clear ko hoff
          obtain ⟨x, hx⟩ : ∃ x, chs[i]? = some x := ⟨_, List.getElem?_eq_getElem (by rw [HM.out]; exact hlt)⟩
          obtain ⟨hxb, hxc⟩ := HC.out wr (HKA.out.trans HCH.out.kp)
          obtain ⟨hwb, hab, hdl⟩ := hxb x (List.mem_of_getElem? hx)
          obtain ⟨g, o, rfl, hg, hcc⟩ := hxc.resolve_left (fun e => by rw [e] at hx; simp at hx)
          obtain ⟨da, dc, q0, q1, q2, q3, q4, hsl, hdc⟩ := hcc i x hx
          obtain ⟨wh, ai, data, fl, fe⟩ := x
          simp only at hwb hab hdl q0 q1 q2 q3 q4 hsl hdc
          obtain ⟨dn, hdn⟩ : ∃ dn, data.length = dn := ⟨_, rfl⟩
          rw [hdn] at q2 hdl hdc
          have HDN := hide hdn
          have ib := fun Y => index_chg g o i m1 c1 hlt Y
          obtain ⟨V1, hV1⟩ : ∃ V1, wr.alloc (.cells #[.int .i64 wh, .int .i64 ai, .slice da dn dc, .bool fl, .bool fe] 93) = V1 := ⟨_, rfl⟩
          have hA1 : Below wr.heap.size wr V1 := by rw [← hV1]; exact (Below.refl _ wr).alloc (Nat.le_refl _) _
          have hn1 : V1.heap[wr.heap.size]? = some (.cells #[.int .i64 wh, .int .i64 ai, .slice da dn dc, .bool fl, .bool fe] 93 (0, 0)) := by rw [← hV1]; exact heap_alloc_new wr _
          obtain ⟨j, hj⟩ : ∃ j : Nat, (j : Int) = wh % (k : Int) := ⟨(wh % (k : Int)).toNat, by have := Int.emod_nonneg wh (show (k : Int) ≠ 0 by omega); omega⟩
          have hjk : j < k := by have := Int.emod_lt_of_pos wh kI; omega
          have KW1 := hide (fun W => uwithin_any W wh (k : Int) kI (by omega) hwb.1 hwb.2)
          rw [← hj] at KW1
          obtain ⟨y, hy⟩ : ∃ y, bl[j]? = some y := ⟨_, List.getElem?_eq_getElem (by rw [HK.out]; exact hjk)⟩
          obtain ⟨c0, c1', c2', c3⟩ := HCOV.out y (List.mem_of_getElem? hy)
          have hse1 := (HSE.out.kp HCH.out.kp).below hA1
          obtain ⟨lg2, lo, lcur, rfl, hlg, hlc⟩ := hse1.2.resolve_left (fun e => by rw [e] at hy; simp at hy)
          obtain ⟨xe, ne⟩ := y
          simp only at c0 c1' c2' c3
          obtain ⟨l0, l1⟩ := hlc j xe ne hy
          have le0 : V1.cell? ⟨lg2, lo + j * 2, none⟩ = some (.int .i64 xe) := (cell8 hlg _).trans l0
          have le1 : V1.cell? ⟨lg2, lo + j * 2 + 1, none⟩ = some (.int .i64 ne) := (cell8 hlg _).trans l1
          have il := fun Y => index_ext lg2 lo j k lc hjk Y
          have g0 : V1.cell? ⟨wr.heap.size, 0, none⟩ = some (.int .i64 wh) := cell8 hn1 0
          obtain ⟨gc, hgc⟩ : ∃ gc, wr.heap.size = gc := ⟨_, rfl⟩
          rw [hgc] at g0 hn1
          have HSL := hide hsl
          have HN1 := hide hn1
          have HA1 := hide hA1
          have HXE := hide (And.intro c0 (And.intro c1' (And.intro c2' c3)))
          clear hx hcc hxb hxc hj hy hlc l0 l1 hlg hse1 hsl hn1 hA1 c3 hdn
          go_upto_region 5 with (go_at_call 16; refine (KO.out).mono ?_; rintro e w' ⟨rfl, hw⟩; obtain rfl := hw.symm)
          try rw [hV1]
          try rw [hgc]
          clear hV1 q0 q1 q2 q3 q4 ib
          obtain ⟨V2, hV2⟩ : ∃ V2, V1.alloc (.cells #[.int .i64 xe, .int .i64 ne] 52) = V2 := ⟨_, rfl⟩
          have hA2 : Below V1.heap.size V1 V2 := by rw [← hV2]; exact (Below.refl _ V1).alloc (Nat.le_refl _) _
          have hn2 : V2.heap[V1.heap.size]? = some (.cells #[.int .i64 xe, .int .i64 ne] 52 (0, 0)) := by rw [← hV2]; exact heap_alloc_new V1 _
          obtain ⟨ge, hge⟩ : ∃ ge, V1.heap.size = ge := ⟨_, rfl⟩
          rw [hge] at hn2
          have hn12 := row_keepU HN1.out hA2
          go_upto_region 6 with (go_at_call 25; refine (KW1.out _).mono ?_; rintro e w' ⟨rfl, hw⟩; obtain rfl := hw.symm)
          try rw [hV2]
          try rw [hge]
          clear hV2 le0 le1 il g0 KW1
          have HB2 := hide (bseq HA1.out hA2)
          have HSL2 := hide (HSL.out.below HB2.out)
          have HBW2 := hide (HCH.out.bw.below HB2.out)
          have HKP2 := hide (HCH.out.kp.trans (Kp8.of_below HB2.out HCH.out.bw.big))
          have b1 : V2.cell? ⟨gc, 1, none⟩ = some (.int .i64 ai) := cell8 hn12 1
          have b2 : V2.cell? ⟨gc, 2, none⟩ = some (.slice da dn dc) := cell8 hn12 2
          have d0 : V2.cell? ⟨ge, 0, none⟩ = some (.int .i64 xe) := cell8 hn2 0
          have d1 : V2.cell? ⟨ge, 1, none⟩ = some (.int .i64 ne) := cell8 hn2 1
          obtain ⟨pa, hpa⟩ : ∃ pa : Nat, (pa : Int) = ai % ne := ⟨(ai % ne).toNat, by have := Int.emod_nonneg ai (show ne ≠ 0 by omega); omega⟩
          have hpl : (pa : Int) < ne := by have := Int.emod_lt_of_pos ai (show (0 : Int) < ne by omega); omega
          have KW2 := hide (fun W => uwithin_any W ai ne (by omega) (by omega) hab.1 hab.2)
          rw [← hpa] at KW2
          obtain ⟨ap, hap⟩ : ∃ ap : Nat, (ap : Int) = xe + (pa : Int) := ⟨(xe + (pa : Int)).toNat, by omega⟩
          obtain ⟨rm, hrm⟩ : ∃ rm : Nat, (rm : Int) = ne - (pa : Int) := ⟨(ne - (pa : Int)).toNat, by omega⟩
          have w1 : IntKind.i64.wrap (ne - (pa : Int)) = (rm : Int) := by rw [IntKind.wrap_i64]; omega
          have w2 : IntKind.i64.wrap (xe + (pa : Int)) = (ap : Int) := by rw [IntKind.wrap_i64]; omega
          have HNN := hide (And.intro hn12 hn2)
          have HAP := hide (And.intro hap hrm)
          have HAPL := hide (show ap < 1024 by omega)
          have hopi := HCH.out.ops
          have hopb : si.ops + 30000000 ≤ 1400000000000 := by omega
          have hlen2 : ap + rm ≤ 1024 := by omega
          have hcv2 : ∀ p : Nat, ap ≤ p → p < ap + rm → Cov rs p := fun p h1 h2 => HXE.out.2.2.2 p (by omega) (by omega)
          have HCV := hide hcv2
          have HLEN := hide hlen2
          clear hpa hap hrm hpl hn12 hn2 hA2 hcv2 hlen2
          go_upto_region 8 with (go_at_call 25; refine (KW2.out _).mono ?_; rintro e w' ⟨rfl, hw⟩; obtain rfl := hw.symm)
          by_cases hbig : rm < dn
          · have bI : (rm : Int) < (dn : Int) := by omega
            obtain ⟨dad, rfl⟩ : ∃ dad, da = some dad := by
              rcases HSL2.out with e | ⟨b5, o5, e, _⟩
              · have := HDN.out; rw [e] at this; simp at this; omega
              · exact ⟨_, e⟩
            have sc := fun Y => slice_upG dad rm dn dc (by omega) hdc Y
            obtain ⟨n2, hn2⟩ : ∃ n2, rm = n2 := ⟨_, rfl⟩
            have hbl : (data.take rm).length = n2 := by rw [List.length_take, HDN.out]; omega
            have hle : n2 ≤ rm := by omega
            have HLE := hide hle
            have hs2 := HSL2.out.take rm
            generalize data.take rm = bs at *
            go_upto_region 10 with (fail)
            try rw [hn2]
            clear sc hn2
            have s0 : V2.drew.cell? ⟨ge, 0, none⟩ = some (.int .i64 xe) := d0
            have kc := copyBytes_any (some dad) dc bs V2.drew hs2 (by have h5 := HLEN.out; have h6 := HLE.out; omega)
            rw [hbl] at kc
            have KC := hide kc
            have HBL := hide hbl
            have HBT := hide hs2.lt
            have hgl := lt_of_heap HNN.out.2
            clear kc b1 b2 d0 d1 hs2 hbl w1
            try go_frame
            refine wp_region_held_drew (S := fun Y => Y.cell? ⟨ge, 0, none⟩ = some (.int .i64 xe)) (by kernel_rfl) s0 (fun hS => ?_)
            refine wpAnyH_take (i := 0) (v := (.pointer (some ⟨b, 0, none⟩))) rfl (by kernel_rfl) (by kernel_rfl) (by kernel_rfl) (fun _ _ _ h => h) (Or.inl ⟨by kernel_rfl, fun w' hw => by (go_simp)⟩) hS ?_
            refine wpAnyH_take (i := 1) (v := (.pointer (some ⟨ge, 0, none⟩))) rfl (by kernel_rfl) (by kernel_rfl) (by kernel_rfl) (fun _ _ _ h => h) (Or.inl ⟨by kernel_rfl, fun w' hw => by (go_simp)⟩) hS ?_
            refine wpAnyH_take (i := 2) (v := (.int .i64 xe)) rfl (by kernel_rfl) (by kernel_rfl) (by kernel_rfl) (fun _ _ _ h => h) (Or.inl ⟨by kernel_rfl, fun w' hw => by (have e0 := hw; go_simp)⟩) hS ?_
            refine wpAnyH_take (i := 3) (v := (.int .i64 (pa : Int))) rfl (by kernel_rfl) (by kernel_rfl) (by kernel_rfl) (fun _ _ _ h => h) (Or.inl ⟨by kernel_rfl, fun w' hw => by (go_simp)⟩) hS ?_
            refine wpAnyH_take (i := 4) (v := (.int .i64 (ap : Int))) rfl (by kernel_rfl) (by kernel_rfl) (by kernel_rfl) (fun _ _ _ h => h) (Or.inl ⟨by kernel_rfl, fun w' hw => by (have e0 := w2; go_simp)⟩) hS ?_
            refine wpAnyH_take (i := 5) (v := (.slice (some dad) n2 dc)) rfl (by kernel_rfl) (by kernel_rfl) (by kernel_rfl) (fun _ _ _ h => h) (Or.inl ⟨by kernel_rfl, fun w' hw => by (go_simp)⟩) hS ?_
            refine wpAnyH_goS (i := 6) (by kernel_rfl) rfl (by kernel_rfl) (fun K hK => ?_)
            go_wp2_with (go_at_call 36; refine (KC.out).mono ?_; rintro e WC ⟨rfl, hoc, hbc⟩; replace hoc : OwnB WC V2.heap.size bs := hoc; have HOC := hide hoc; have HBC := hide (bseq (Below.refl _ V2).drew hbc : Below V2.heap.size V2 WC); clear hoc hbc)
            have hS1 := (show WC.cell? ⟨ge, 0, none⟩ = some (.int .i64 xe) from (HBC.out.cell (p := ⟨ge, 0, none⟩) hgl).trans s0)
            refine hK.out _ _ hS1 ?_
            clear hK K
            have kst := bw_store (ad := ⟨V2.heap.size, 0, none⟩) ap n2 (HBW2.out.below HBC.out) HCH.out.dir HOFF.out hopb (HOC.out.sl HBT.out) (by rw [HBL.out]; exact Nat.le_refl _) (by rw [HBL.out]; have h5 := HLEN.out; have h6 := HLE.out; omega) (fun p h1 h2 => HCV.out p h1 (by rw [HBL.out] at h2; have h6 := HLE.out; omega)) HOC.out byte_nd
            rw [HBL.out] at kst
            have KST := hide kst
            clear kst
            refine wpAnyH_goS (i := 7) (by kernel_rfl) rfl (by kernel_rfl) (fun K hK => ?_)
            go_wp2_with (go_at_call 20; refine (KST.out).mono ?_; rintro e W3 ⟨c3, rfl, hs3⟩; have HS3 := hide hs3; clear hs3)
            have hS3 := (show W3.cell? ⟨ge, 0, none⟩ = some (.int .i64 xe) from by obtain ⟨L3, s3, h3⟩ := HS3.out; exact cell8 (((Kp8.of_below HBC.out HBW2.out.big).trans h3.kp).keep _ _ _ _ HNN.out.2 ext_nd) 0)
            refine hK.out _ _ hS3 ?_
            clear hK K
            refine wpAnyH_take (i := 8) (v := (.int .i64 c3)) rfl (by kernel_rfl) (by kernel_rfl) (by kernel_rfl) (fun _ _ _ h => h) (Or.inl ⟨by kernel_rfl, fun w' hw => by (go_simp)⟩) hS3 ?_
            refine wpAnyH_done (by kernel_rfl) ?_ _
            simp only [Act.put, List.getElem_toArray, List.getElem_cons_zero, List.getElem_cons_succ, List.setIfInBounds_toArray, List.set_cons_zero, List.set_cons_succ]
            obtain ⟨L3, s3, h3⟩ := HS3.out
            have HK3 := hide (HKP2.out.trans ((Kp8.of_below HBC.out HBW2.out.big).trans h3.kp))
            have e3 := (Kp8.of_below HBC.out HBW2.out.big).trans h3.kp
            have hgc3 := e3.keep _ _ _ _ HNN.out.1 change_nd
            have hge3 := e3.keep _ _ _ _ HNN.out.2 ext_nd
            have y3 : W3.cell? ⟨gc, 3, none⟩ = some (.bool fl) := cell8 hgc3 3
            have y4 : W3.cell? ⟨gc, 4, none⟩ = some (.bool fe) := cell8 hgc3 4
            have z0 : W3.cell? ⟨ge, 0, none⟩ = some (.int .i64 xe) := cell8 hge3 0
            have hap2 := HAPL.out
            have h3o := h3.ops
            have h3a := h3.arms
            have hia := HCH.out.arms
            have HB3 := hide h3.bw
            have HD3 := hide h3.dir
            have HY := hide (And.intro hgc3 hge3)
            have kof := poff_any h3.bw.dev
            have hmul : 1200 * (i + 1) = 1200 * i + 1200 := by omega
            have HMUL := hide hmul
            clear hmul e3 hgc3 hge3
            rcases h3.code with ⟨rfl, hof3⟩ | ⟨rfl, hof3⟩
            · rw [hof3] at kof
              have KO3 := hide kof
              have KFE := hide (bw_fence HB3.out HD3.out hof3 (by omega))
              have KFL := hide (bw_flush ap HB3.out HD3.out hof3 (by omega) hap2)
              clear kof h3 HS3
              cases fl
              · cases fe
                · clear KFE KFL KO3
                  go_wp2_with (fail)
                  go_roundw
                  case rel => exact ⟨i + 1, L3, s3, int_congrP (by omega), by omega, HB3.out, HD3.out, by omega, by have := HMUL.out; omega, HK3.out⟩
                  case measure => simp [intOf]; omega
                · go_wp2_with (first
                    | (go_at_call 16; refine (KO3.out).mono ?_; rintro e w' ⟨rfl, hw⟩; obtain rfl := hw.symm)
                    | (go_at_call 41; refine (KFE.out).mono ?_; rintro e W4 ⟨c4, rfl, L4, s4, h4⟩; have H4 := hide h4; clear h4))
                  go_roundw
                  case rel => exact ⟨i + 1, L4, s4, int_congrP (by omega), by omega, H4.out.bw, H4.out.dir, by have := H4.out.arms; omega, by have := H4.out.ops; have := HMUL.out; omega, HK3.out.trans H4.out.kp⟩
                  case measure => simp [intOf]; omega
              · cases fe
                · go_wp2_with (first
                    | (go_at_call 16; refine (KO3.out).mono ?_; rintro e w' ⟨rfl, hw⟩; obtain rfl := hw.symm)
                    | (go_at_call 40; refine (KFL.out).mono ?_; rintro e W4 ⟨c4, rfl, L4, s4, h4⟩; have y5 : W4.cell? ⟨gc, 4, none⟩ = some (.bool false) := cell8 (h4.kp.keep _ _ _ _ HY.out.1 change_nd) 4; have H4 := hide h4; clear h4))
                  go_roundw
                  case rel => exact ⟨i + 1, L4, s4, int_congrP (by omega), by omega, H4.out.bw, H4.out.dir, by have := H4.out.arms; omega, by have := H4.out.ops; have := HMUL.out; omega, HK3.out.trans H4.out.kp⟩
                  case measure => simp [intOf]; omega
                · go_upto_region 15 with (first
                    | (go_at_call 16; refine (KO3.out).mono ?_; rintro e w' ⟨rfl, hw⟩; obtain rfl := hw.symm)
                    | (go_at_call 40; refine (KFL.out).mono ?_; rintro e W4 ⟨c4, rfl, L4, s4, h4⟩; have y5 : W4.cell? ⟨gc, 4, none⟩ = some (.bool true) := cell8 (h4.kp.keep _ _ _ _ HY.out.1 change_nd) 4; have H4 := hide h4; clear h4))
                  have kof4 := poff_any H4.out.bw.dev
                  rcases H4.out.code with ⟨rfl, hof4⟩ | ⟨rfl, hof4⟩
                  · rw [hof4] at kof4
                    have KO4 := hide kof4
                    have KFE4 := hide (bw_fence H4.out.bw H4.out.dir hof4 (by have := H4.out.ops; omega))
                    clear kof4
                    go_wp2_with (first
                      | (go_at_call 16; refine (KO4.out).mono ?_; rintro e w' ⟨rfl, hw⟩; obtain rfl := hw.symm)
                      | (go_at_call 41; refine (KFE4.out).mono ?_; rintro e W5 ⟨c5, rfl, L5, s5, h5⟩; have H5 := hide h5; clear h5))
                    go_roundw
                    case rel => exact ⟨i + 1, L5, s5, int_congrP (by omega), by omega, H5.out.bw, H5.out.dir, by have := H4.out.arms; have := H5.out.arms; omega, by have := H4.out.ops; have := H5.out.ops; have := HMUL.out; omega, (HK3.out.trans H4.out.kp).trans H5.out.kp⟩
                    case measure => simp [intOf]; omega
                  · rw [hof4] at kof4
                    have KO4 := hide kof4
                    clear kof4
                    go_wp2_with (go_at_call 16; refine (KO4.out).mono ?_; rintro e w' ⟨rfl, hw⟩; obtain rfl := hw.symm)
                    go_roundw
                    case rel => exact ⟨i + 1, L4, s4, int_congrP (by omega), by omega, H4.out.bw, H4.out.dir, by have := H4.out.arms; omega, by have := H4.out.ops; have := HMUL.out; omega, HK3.out.trans H4.out.kp⟩
                    case measure => simp [intOf]; omega
            · rw [hof3] at kof
              have KO3 := hide kof
              clear kof h3 HS3
              cases fl <;> cases fe
              all_goals
                go_wp2_with (go_at_call 16; refine (KO3.out).mono ?_; rintro e w' ⟨rfl, hw⟩; obtain rfl := hw.symm)
                go_roundw
                case rel => exact ⟨i + 1, L3, s3, int_congrP (by omega), by omega, HB3.out, HD3.out, by omega, by have := HMUL.out; omega, HK3.out⟩
                case measure => simp [intOf]; omega
          · have bI : ¬ (rm : Int) < (dn : Int) := by omega
            obtain ⟨n2, hn2⟩ : ∃ n2, dn = n2 := ⟨_, rfl⟩
            have hbl : data.length = n2 := by rw [HDN.out]; exact hn2
            have hle : n2 ≤ rm := by omega
            have HLE := hide hle
            have hs2 := HSL2.out
            generalize data = bs at *
            go_upto_region 10 with (fail)
            try rw [hn2]
            clear hn2
            have s0 : V2.drew.cell? ⟨ge, 0, none⟩ = some (.int .i64 xe) := d0
            have kc := copyBytes_any da dc bs V2.drew hs2 (by have h5 := HLEN.out; have h6 := HLE.out; omega)
            rw [hbl] at kc
            have KC := hide kc
            have HBL := hide hbl
            have HBT := hide hs2.lt
            have hgl := lt_of_heap HNN.out.2
            clear kc b1 b2 d0 d1 hs2 hbl w1
            try go_frame
            refine wp_region_held_drew (S := fun Y => Y.cell? ⟨ge, 0, none⟩ = some (.int .i64 xe)) (by kernel_rfl) s0 (fun hS => ?_)
            refine wpAnyH_take (i := 0) (v := (.pointer (some ⟨b, 0, none⟩))) rfl (by kernel_rfl) (by kernel_rfl) (by kernel_rfl) (fun _ _ _ h => h) (Or.inl ⟨by kernel_rfl, fun w' hw => by (go_simp)⟩) hS ?_
            refine wpAnyH_take (i := 1) (v := (.pointer (some ⟨ge, 0, none⟩))) rfl (by kernel_rfl) (by kernel_rfl) (by kernel_rfl) (fun _ _ _ h => h) (Or.inl ⟨by kernel_rfl, fun w' hw => by (go_simp)⟩) hS ?_
            refine wpAnyH_take (i := 2) (v := (.int .i64 xe)) rfl (by kernel_rfl) (by kernel_rfl) (by kernel_rfl) (fun _ _ _ h => h) (Or.inl ⟨by kernel_rfl, fun w' hw => by (have e0 := hw; go_simp)⟩) hS ?_
            refine wpAnyH_take (i := 3) (v := (.int .i64 (pa : Int))) rfl (by kernel_rfl) (by kernel_rfl) (by kernel_rfl) (fun _ _ _ h => h) (Or.inl ⟨by kernel_rfl, fun w' hw => by (go_simp)⟩) hS ?_
            refine wpAnyH_take (i := 4) (v := (.int .i64 (ap : Int))) rfl (by kernel_rfl) (by kernel_rfl) (by kernel_rfl) (fun _ _ _ h => h) (Or.inl ⟨by kernel_rfl, fun w' hw => by (have e0 := w2; go_simp)⟩) hS ?_
            refine wpAnyH_take (i := 5) (v := (.slice da n2 dc)) rfl (by kernel_rfl) (by kernel_rfl) (by kernel_rfl) (fun _ _ _ h => h) (Or.inl ⟨by kernel_rfl, fun w' hw => by (go_simp)⟩) hS ?_
            refine wpAnyH_goS (i := 6) (by kernel_rfl) rfl (by kernel_rfl) (fun K hK => ?_)
            go_wp2_with (go_at_call 36; refine (KC.out).mono ?_; rintro e WC ⟨rfl, hoc, hbc⟩; replace hoc : OwnB WC V2.heap.size bs := hoc; have HOC := hide hoc; have HBC := hide (bseq (Below.refl _ V2).drew hbc : Below V2.heap.size V2 WC); clear hoc hbc)
            have hS1 := (show WC.cell? ⟨ge, 0, none⟩ = some (.int .i64 xe) from (HBC.out.cell (p := ⟨ge, 0, none⟩) hgl).trans s0)
            refine hK.out _ _ hS1 ?_
            clear hK K
            have kst := bw_store (ad := ⟨V2.heap.size, 0, none⟩) ap n2 (HBW2.out.below HBC.out) HCH.out.dir HOFF.out hopb (HOC.out.sl HBT.out) (by rw [HBL.out]; exact Nat.le_refl _) (by rw [HBL.out]; have h5 := HLEN.out; have h6 := HLE.out; omega) (fun p h1 h2 => HCV.out p h1 (by rw [HBL.out] at h2; have h6 := HLE.out; omega)) HOC.out byte_nd
            rw [HBL.out] at kst
            have KST := hide kst
            clear kst
            refine wpAnyH_goS (i := 7) (by kernel_rfl) rfl (by kernel_rfl) (fun K hK => ?_)
            go_wp2_with (go_at_call 20; refine (KST.out).mono ?_; rintro e W3 ⟨c3, rfl, hs3⟩; have HS3 := hide hs3; clear hs3)
            have hS3 := (show W3.cell? ⟨ge, 0, none⟩ = some (.int .i64 xe) from by obtain ⟨L3, s3, h3⟩ := HS3.out; exact cell8 (((Kp8.of_below HBC.out HBW2.out.big).trans h3.kp).keep _ _ _ _ HNN.out.2 ext_nd) 0)
            refine hK.out _ _ hS3 ?_
            clear hK K
            refine wpAnyH_take (i := 8) (v := (.int .i64 c3)) rfl (by kernel_rfl) (by kernel_rfl) (by kernel_rfl) (fun _ _ _ h => h) (Or.inl ⟨by kernel_rfl, fun w' hw => by (go_simp)⟩) hS3 ?_
            refine wpAnyH_done (by kernel_rfl) ?_ _
            simp only [Act.put, List.getElem_toArray, List.getElem_cons_zero, List.getElem_cons_succ, List.setIfInBounds_toArray, List.set_cons_zero, List.set_cons_succ]
            obtain ⟨L3, s3, h3⟩ := HS3.out
            have HK3 := hide (HKP2.out.trans ((Kp8.of_below HBC.out HBW2.out.big).trans h3.kp))
            have e3 := (Kp8.of_below HBC.out HBW2.out.big).trans h3.kp
            have hgc3 := e3.keep _ _ _ _ HNN.out.1 change_nd
            have hge3 := e3.keep _ _ _ _ HNN.out.2 ext_nd
            have y3 : W3.cell? ⟨gc, 3, none⟩ = some (.bool fl) := cell8 hgc3 3
            have y4 : W3.cell? ⟨gc, 4, none⟩ = some (.bool fe) := cell8 hgc3 4
            have z0 : W3.cell? ⟨ge, 0, none⟩ = some (.int .i64 xe) := cell8 hge3 0
            have hap2 := HAPL.out
            have h3o := h3.ops
            have h3a := h3.arms
            have hia := HCH.out.arms
            have HB3 := hide h3.bw
            have HD3 := hide h3.dir
            have HY := hide (And.intro hgc3 hge3)
            have kof := poff_any h3.bw.dev
            have hmul : 1200 * (i + 1) = 1200 * i + 1200 := by omega
            have HMUL := hide hmul
            clear hmul e3 hgc3 hge3
            rcases h3.code with ⟨rfl, hof3⟩ | ⟨rfl, hof3⟩
            · rw [hof3] at kof
              have KO3 := hide kof
              have KFE := hide (bw_fence HB3.out HD3.out hof3 (by omega))
              have KFL := hide (bw_flush ap HB3.out HD3.out hof3 (by omega) hap2)
              clear kof h3 HS3
              cases fl
              · cases fe
                · clear KFE KFL KO3
                  go_wp2_with (fail)
                  go_roundw
                  case rel => exact ⟨i + 1, L3, s3, int_congrP (by omega), by omega, HB3.out, HD3.out, by omega, by have := HMUL.out; omega, HK3.out⟩
                  case measure => simp [intOf]; omega
                · go_wp2_with (first
                    | (go_at_call 16; refine (KO3.out).mono ?_; rintro e w' ⟨rfl, hw⟩; obtain rfl := hw.symm)
                    | (go_at_call 41; refine (KFE.out).mono ?_; rintro e W4 ⟨c4, rfl, L4, s4, h4⟩; have H4 := hide h4; clear h4))
                  go_roundw
                  case rel => exact ⟨i + 1, L4, s4, int_congrP (by omega), by omega, H4.out.bw, H4.out.dir, by have := H4.out.arms; omega, by have := H4.out.ops; have := HMUL.out; omega, HK3.out.trans H4.out.kp⟩
                  case measure => simp [intOf]; omega
              · cases fe
                · go_wp2_with (first
                    | (go_at_call 16; refine (KO3.out).mono ?_; rintro e w' ⟨rfl, hw⟩; obtain rfl := hw.symm)
                    | (go_at_call 40; refine (KFL.out).mono ?_; rintro e W4 ⟨c4, rfl, L4, s4, h4⟩; have y5 : W4.cell? ⟨gc, 4, none⟩ = some (.bool false) := cell8 (h4.kp.keep _ _ _ _ HY.out.1 change_nd) 4; have H4 := hide h4; clear h4))
                  go_roundw
                  case rel => exact ⟨i + 1, L4, s4, int_congrP (by omega), by omega, H4.out.bw, H4.out.dir, by have := H4.out.arms; omega, by have := H4.out.ops; have := HMUL.out; omega, HK3.out.trans H4.out.kp⟩
                  case measure => simp [intOf]; omega
                · go_upto_region 15 with (first
                    | (go_at_call 16; refine (KO3.out).mono ?_; rintro e w' ⟨rfl, hw⟩; obtain rfl := hw.symm)
                    | (go_at_call 40; refine (KFL.out).mono ?_; rintro e W4 ⟨c4, rfl, L4, s4, h4⟩; have y5 : W4.cell? ⟨gc, 4, none⟩ = some (.bool true) := cell8 (h4.kp.keep _ _ _ _ HY.out.1 change_nd) 4; have H4 := hide h4; clear h4))
                  have kof4 := poff_any H4.out.bw.dev
                  rcases H4.out.code with ⟨rfl, hof4⟩ | ⟨rfl, hof4⟩
                  · rw [hof4] at kof4
                    have KO4 := hide kof4
                    have KFE4 := hide (bw_fence H4.out.bw H4.out.dir hof4 (by have := H4.out.ops; omega))
                    clear kof4
                    go_wp2_with (first
                      | (go_at_call 16; refine (KO4.out).mono ?_; rintro e w' ⟨rfl, hw⟩; obtain rfl := hw.symm)
                      | (go_at_call 41; refine (KFE4.out).mono ?_; rintro e W5 ⟨c5, rfl, L5, s5, h5⟩; have H5 := hide h5; clear h5))
                    go_roundw
                    case rel => exact ⟨i + 1, L5, s5, int_congrP (by omega), by omega, H5.out.bw, H5.out.dir, by have := H4.out.arms; have := H5.out.arms; omega, by have := H4.out.ops; have := H5.out.ops; have := HMUL.out; omega, (HK3.out.trans H4.out.kp).trans H5.out.kp⟩
                    case measure => simp [intOf]; omega
                  · rw [hof4] at kof4
                    have KO4 := hide kof4
                    clear kof4
                    go_wp2_with (go_at_call 16; refine (KO4.out).mono ?_; rintro e w' ⟨rfl, hw⟩; obtain rfl := hw.symm)
                    go_roundw
                    case rel => exact ⟨i + 1, L4, s4, int_congrP (by omega), by omega, H4.out.bw, H4.out.dir, by have := H4.out.arms; omega, by have := H4.out.ops; have := HMUL.out; omega, HK3.out.trans H4.out.kp⟩
                    case measure => simp [intOf]; omega
            · rw [hof3] at kof
              have KO3 := hide kof
              clear kof h3 HS3
              cases fl <;> cases fe
              all_goals
                go_wp2_with (go_at_call 16; refine (KO3.out).mono ?_; rintro e w' ⟨rfl, hw⟩; obtain rfl := hw.symm)
                go_roundw
                case rel => exact ⟨i + 1, L3, s3, int_congrP (by omega), by omega, HB3.out, HD3.out, by omega, by have := HMUL.out; omega, HK3.out⟩
                case measure => simp [intOf]; omega
        · rw [hoff] at ko
          have KO := hide ko
          clear ko hoff
          go_wp2_with (go_at_call 16; refine (KO.out).mono ?_; rintro e w' ⟨rfl, hw⟩; obtain rfl := hw.symm)
          go_ret
          exact ⟨rfl, FIN.out⟩
    · have iI : ¬ (i : Int) < (m1 : Int) := by omega
      clear ko
      go_wp2_with (fail)
      go_ret
      exact ⟨rfl, FIN.out⟩
end Go.Proofs.Ytgfgihpkbbjkfaa
namespace Go.Proofs.Ytgfgihpkbbjkfaa
open Go.RowKit Go.Shelf
set_option linter.unusedVariables false

/-- A list of ints. -/
def IntsP (W : World) (a : Option Addr) (zs : List Int) : Prop := (∀ z ∈ zs, -9223372036854775808 ≤ z ∧ z ≤ 9223372036854775807) ∧ (zs = [] ∨ ∃ b off, a = some ⟨b, off, none⟩ ∧ b < W.heap.size ∧ ∀ (i : Nat) (z : Int), zs[i]? = some z → W.cell? ⟨b, off + i, none⟩ = some (.int .i64 z))
theorem IntsP.below {W W' : World} {a : Option Addr} {zs : List Int} (h : IntsP W a zs) (hB : Below W.heap.size W W') : IntsP W' a zs := by
  refine ⟨h.1, ?_⟩
  rcases h.2 with h | ⟨b, off, e, hb, hc⟩
  · exact .inl h
  · exact .inr ⟨b, off, e, Nat.lt_of_lt_of_le hb hB.size, fun i z hz => (hB.cell hb).trans (hc i z hz)⟩
theorem IntsP.at {W : World} {a : Option Addr} {zs : List Int} (h : IntsP W a zs) {i : Nat} {z : Int} (hz : zs[i]? = some z) : ∃ b off, a = some ⟨b, off, none⟩ ∧ W.cell? ⟨b, off + i, none⟩ = some (.int .i64 z) ∧ -9223372036854775808 ≤ z ∧ z ≤ 9223372036854775807 := by
  rcases h.2 with h2 | ⟨b, off, e, hb, hc⟩
  · rw [h2] at hz; simp at hz
  · have h3 := h.1 z (List.mem_of_getElem? hz)
    exact ⟨b, off, e, hc i z hz, h3.1, h3.2⟩
/-- No number below 0. -/
def nonneg (zs : List Int) : Bool := zs.all (fun z => decide (0 ≤ z))
theorem nonneg_no {zs : List Int} {i : Nat} {z : Int} (hz : zs[i]? = some z) (h : z < 0) : nonneg zs = false := by
  unfold nonneg
  rw [List.all_eq_false]
  exact ⟨z, List.mem_of_getElem? hz, by simpa using h⟩
theorem nonneg_yes {zs : List Int} (h : ∀ (i : Nat) (z : Int), i < zs.length → zs[i]? = some z → 0 ≤ z) : nonneg zs = true := by
  unfold nonneg
  rw [List.all_eq_true]
  intro z hz
  obtain ⟨i, hi⟩ := List.getElem?_of_mem hz
  simpa using h i z (List.getElem?_eq_some_iff.1 hi).1 hi
set_option maxHeartbeats 400000 in
theorem pmayI {w : World} {a : Option Addr} {zs : List Int} (cap m : Nat) (h : IntsP w a zs) (hm : zs.length = m) (hl : m ≤ 17592186043904) : Calls Try.prog 38 #[.slice a m cap] w fun e w' => e = .returned (.bool (nonneg zs)) ∧ w' = w := by
  have H := hide h
  have HM := hide hm
  obtain ⟨g5, hg5⟩ : ∃ g, nonneg zs = g := ⟨_, rfl⟩
  rw [hg5]
  have HG := hide hg5
  clear h hm hg5
  go_enter Try.func38, Try.ntmps38
  go_wp2
  go_loopw [7] (fun iv wr => ∃ j : Nat, iv = .int .i64 (j : Int) ∧ j ≤ m ∧ wr = w ∧ ∀ (i : Nat) (z : Int), i < j → zs[i]? = some z → 0 ≤ z) (fun iv _ => (m - (intOf iv).toNat))
  case atStart => exact ⟨0, rfl, Nat.zero_le _, rfl, fun i z h => by omega⟩
  case round =>
    obtain ⟨j, rfl, hj, rfl, hall⟩ := hrel
    have HALL := hide hall
    clear hall
    by_cases hlt : j < m
    · obtain ⟨k, hk⟩ : ∃ k, zs[j]? = some k := ⟨_, List.getElem?_eq_getElem (by rw [HM.out]; exact hlt)⟩
      obtain ⟨g, o, rfl, hc, hkb⟩ := H.out.at hk
      have l0 := index_int g o j m cap hlt wr
      have jI : (j : Int) < (m : Int) := by omega
      have HK := hide hk
      clear hk
      by_cases kI : k < 0
      · have hgf : g5 = false := HG.out.symm.trans (nonneg_no HK.out kI)
        subst hgf
        go_wp2
        go_ret
        exact ⟨rfl, rfl⟩
      · go_wp2
        go_roundw
        case rel => exact ⟨j + 1, int_congrP (by omega), by omega, trivial, fun i z hi hz => by
          by_cases e : i = j
          · subst e; rw [HK.out] at hz; cases hz; omega
          · exact HALL.out i z (by omega) hz⟩
        case measure => simp [intOf]; omega
    · have jI : ¬ (j : Int) < (m : Int) := by omega
      have hgt : g5 = true := HG.out.symm.trans (nonneg_yes (fun i z hi hz => HALL.out i z (by have := HM.out; omega) hz))
      subst hgt
      go_wp2
      go_ret
      exact ⟨rfl, rfl⟩
def IZ (z : Int) : Value := .int .i64 z
theorem cellOneK (W : World) (x : Value) (t : TypeId) : ∀ (j : Nat) u, [x][j]? = some u → (W.alloc (.cells #[x] t)).cell? ((⟨W.heap.size, 0, none⟩ : Addr).add j) = some u := fun j u hu => by
  have h := heap_alloc_new W (.cells #[x] t)
  match j, hu with
  | 0, hu =>
    cases hu
    have e : (⟨W.heap.size, 0, none⟩ : Addr).add 0 = ⟨W.heap.size, 0, none⟩ := by simp [Addr.add]
    rw [e, cell8 h 0]
    rfl
  | n + 1, hu => simp at hu
/-- A list of ints, in memory of its own. -/
def OwnI (W : World) (B : Nat) (v : Value) (zs : List Int) : Prop := W.ownsRow B 3 1 v zs.length (zs.map IZ)
/-- Such a list, where no number is below 0, is one of what lines keep. -/
theorem OwnI.slN {W : World} {B m : Nat} {ka : Option Addr} {kc : Nat} {zs : List Int} (h : OwnI W B (.slice ka m kc) zs) (hm : zs.length = m) (hb : ∀ z ∈ zs, -9223372036854775808 ≤ z ∧ z ≤ 9223372036854775807) (hn : nonneg zs = true) : SlN W ka (zs.map Int.toNat) := by
  unfold nonneg at hn
  rw [List.all_eq_true] at hn
  refine ⟨fun k hk => ?_, ?_⟩
  · obtain ⟨z, hz, rfl⟩ := List.mem_map.1 hk
    have := hb z hz
    omega
  · unfold OwnI at h
    rw [hm] at h
    rcases h.2 with ⟨e, h0⟩ | ⟨g, cap, cur, e, h1, h2, h3, _, h4, h5⟩
    · have : zs = [] := List.eq_nil_of_length_eq_zero (by omega)
      cases e
      subst this
      exact .inl ⟨rfl, rfl⟩
    · cases e
      refine .inr ⟨g, 0, cur, _, rfl, h2, fun j k hj => ?_⟩
      rw [List.getElem?_map] at hj
      obtain ⟨z, hz, rfl⟩ := Option.map_eq_some_iff.1 hj
      have hlt : j < zs.length := (List.getElem?_eq_some_iff.1 hz).1
      have h6 : (cur.toList.take (m * 1))[j]? = some (IZ z) := by rw [h5, List.getElem?_map, hz]; rfl
      rw [List.getElem?_take, if_pos (by omega)] at h6
      rw [Nat.zero_add, cell8 h2]
      have h0 : 0 ≤ z := by simpa using hn z (List.mem_of_getElem? hz)
      rw [show ((z.toNat : Nat) : Int) = z by omega]
      simpa [IZ] using h6
theorem OwnI.ints {W : World} {B m : Nat} {ka : Option Addr} {kc : Nat} {zs : List Int} (h : OwnI W B (.slice ka m kc) zs) (hm : zs.length = m) (hb : ∀ z ∈ zs, -9223372036854775808 ≤ z ∧ z ≤ 9223372036854775807) : IntsP W ka zs := by
  refine ⟨hb, ?_⟩
  unfold OwnI at h
  rw [hm] at h
  rcases h.2 with ⟨e, h0⟩ | ⟨g, cap, cur, e, h1, h2, h3, _, h4, h5⟩
  · exact .inl (List.eq_nil_of_length_eq_zero (by omega))
  · cases e
    refine .inr ⟨g, 0, rfl, lt_of_heap h2, fun j z hj => ?_⟩
    have hlt : j < zs.length := (List.getElem?_eq_some_iff.1 hj).1
    have h6 : (cur.toList.take (m * 1))[j]? = some (IZ z) := by rw [h5, List.getElem?_map, hj]; rfl
    rw [List.getElem?_take, if_pos (by omega)] at h6
    rw [Nat.zero_add, cell8 h2]
    simpa [IZ] using h6
theorem pcrash_no {w : World} {b : Nat} {L : Lay} {σ : St} {a : Option Addr} {zs : List Int} (cap m : Nat) (hd : DevL w b L σ) (ho : σ.off = false) (h : IntsP w a zs) (hm : zs.length = m) (hl : m ≤ 17592186043904) (hn : nonneg zs = false) : Calls Try.prog 44 #[.pointer (some ⟨b, 0, none⟩), .slice a m cap] w fun e w' => e = .returned (.int .i64 2) ∧ w' = w := by
  have ks := pstate_any hd
  rw [ho] at ks
  simp only [Bool.false_eq_true, if_false] at ks
  have km := pmayI (w := w) cap m h hm hl
  rw [hn] at km
  have KS := hide ks
  have KM := hide km
  clear ks km hd ho h hm hl hn
  go_enter Try.func44, Try.ntmps44
  go_wp2_with (first | (go_at_call 37; refine (KS.out).mono ?_; rintro e w' ⟨rfl, hw⟩; obtain rfl := hw.symm) | (go_at_call 38; refine (KM.out).mono ?_; rintro e w' ⟨rfl, hw⟩; obtain rfl := hw.symm))
  go_ret
  exact ⟨rfl, rfl⟩
end Go.Proofs.Ytgfgihpkbbjkfaa
namespace Go.Proofs.Ytgfgihpkbbjkfaa
open Go.RowKit Go.Shelf
set_option linter.unusedVariables false

theorem add_zero (ad : Addr) : ad.add 0 = ad := by
  obtain ⟨b, o, sp⟩ := ad
  cases sp <;> simp [Addr.add]
theorem cut_intsG (ad : Addr) (m nk cap : Nat) (hm : m ≤ nk) (hc : nk ≤ cap) (w : World) : (Instr.sliceAt 87 (.slice (some ad) nk cap) none (some (.int .i64 (m : Int))) none).run Try.prog w = .ok (.slice (some ad) m cap) w := by
  obtain ⟨i, h1, _⟩ := infoInt2
  have hc2 : m ≤ cap := by omega
  simp [Instr.sliceAt, Instr.slice, Sem.run_bind, run_underlying Try.underlying87, Instr.sliceBounds, Instr.sliceBound, asIntOf, sizeOf, typeInfo, h1, add_zero, hc2]
set_option maxRecDepth 100000 in
/-- A list of ints of its own. -/
theorem pcloneG (ad : Addr) (m cp : Nat) (kp : List Nat) (w : World) (hm : kp.length = m) (hn : ∀ j k : Nat, kp[j]? = some k → w.cell? (ad.add j) = some (.int .i64 (k : Int))) (hms : m ≤ 65536) :
    Calls Try.prog 39 #[.slice (some ad) m cp] w fun e w' => ∃ gn cn, e = .returned (.slice (some ⟨gn, 0, none⟩) m cn) ∧ w.heap.size ≤ gn ∧ (∃ c, w'.heap[gn]? = some (.cells c 3 (0, 0))) ∧ (∀ j k : Nat, kp[j]? = some k → w'.cell? ⟨gn, j, none⟩ = some (.int .i64 (k : Int))) ∧ Below w.heap.size w w' := by
  obtain ⟨it, hit, hz, h65, h72⟩ := infoInt2
  obtain ⟨news, hnews⟩ : ∃ news, news = kp.map (fun k : Nat => Value.int .i64 (k : Int)) := ⟨_, rfl⟩
  have hl : news.length = m * 1 := by rw [hnews, List.length_map, hm, Nat.mul_one]
  have hA : Below w.heap.size w (w.alloc (.cells #[] 3)) := (Below.refl _ w).alloc (Nat.le_refl _) _
  have ho : (w.alloc (.cells #[] 3)).ownsRow 0 3 1 (.slice (some ⟨w.heap.size, 0, none⟩) 0 0) 0 [] := ⟨rfl, .inr ⟨w.heap.size, 0, #[], rfl, Nat.zero_le _, heapNew w _, Nat.le_refl _, Nat.zero_le _, rfl, rfl⟩⟩
  have hn' : ∀ j u, news[j]? = some u → (w.alloc (.cells #[] 3)).cell? (ad.add j) = some u := fun j u hu => by
    rw [hnews, List.getElem?_map] at hu
    obtain ⟨k, hk, rfl⟩ := Option.map_eq_some_iff.1 hu
    exact (hA.cell (World.block_lt_of_cell? _ _ (hn j k hk))).trans (hn j k hk)
  have h1 : ∀ u ∈ news, u.oneCell' = true := fun u hu => by
    rw [hnews] at hu
    obtain ⟨k, _, rfl⟩ := List.mem_map.1 hu
    rfl
  have hbs : (Instr.buildSlice 87 0 #[]).run Try.prog w = .ok (.slice (some ⟨w.heap.size, 0, none⟩) 0 0) (w.alloc (.cells #[] 3)) := by
    simp [Instr.buildSlice, run_underlying Try.underlying87, sizeOf, typeInfo, hit, Instr.fill, newRow]
    rw [show Array.map (fun (_ : Nat) => (default : Value)) (Array.range 0) = #[] from Array.eq_empty_of_size_eq_zero (by simp)]
  have hq : (binOp .eql 87 (.slice (some ad) m cp) (.slice none 0 0)).run Try.prog w = .ok (.bool false) w := by
    have h : ∀ d : Nat, (Op.equalIn (d + 1) 87 (.slice (some ad) m cp) (.slice none 0 0)).run Try.prog w = .ok false w := fun d => by
      simp [Op.equalIn, run_underlying Try.underlying87]
    simp only [binOp]
    simp [Op.equal, Op.maxDepth, h 9999]
  have HA := hide hA
  have HO := hide ho
  have HN := hide hn'
  have HM := hide hm
  have HNW := hide hnews
  clear hA ho hn hn' hm hnews
  go_enter Try.func39, Try.ntmps39
  go_wp2_with (at_builtin; refine wpList_append_own_at _ rfl _ _ 87 rfl 0 3 it (.int .i64 0) 1 8 Try.underlying87 hit hz h65 h72 (by rfl) (by decide) (.slice (some ⟨w.heap.size, 0, none⟩) 0 0) 0 [] rfl HO.out ad m cp news rfl hl HN.out h1 (by unfold maxLen; omega) (by omega) (Nat.zero_le _) ?_; intro v1 x1 ho2 hg2 hnl hat; go_frame)
  go_ret
  rw [Nat.zero_add, List.nil_append] at ho2
  rcases ho2.2 with ⟨rfl, h0⟩ | ⟨gn, cn, cur, rfl, q1, q2, q3, q4, q5, q6⟩
  · exact absurd (hnl.1 rfl).1 (by simp)
  · have hgn : w.heap.size ≤ gn := by rcases hat with e | e <;> cases e <;> simp
    refine ⟨gn, cn, rfl, hgn, ⟨cur, q2⟩, fun j k hj => ?_, ?_⟩
    · rw [cell8 q2]
      have h9 : (cur.toList.take (m * 1))[j]? = some (.int .i64 (k : Int)) := by rw [q6, HNW.out, List.getElem?_map, hj]; rfl
      have hjm : j < m := by have h8 := (List.getElem?_eq_some_iff.1 hj).1; have h7 := HM.out; omega
      rw [List.getElem?_take, if_pos (by omega)] at h9
      simpa using h9
    · exact ⟨hg2.os.trans HA.out.os, hg2.tape.trans HA.out.tape, hg2.output.trans HA.out.output, Nat.le_trans HA.out.size hg2.size, fun k hk => (hg2.block k (Nat.lt_of_lt_of_le hk HA.out.size) (fun e => by simp [Value.ownBlock] at e; omega)).trans (HA.out.block k hk)⟩
section
variable {w : World} {b : Nat} {L : Lay} {σ : St}
set_option maxRecDepth 100000 in
set_option maxHeartbeats 400000 in
/-- Arm of one loss. -/
theorem parm_gen {af ga m nk ck : Nat} {ad : Addr} {kp : List Nat} {zs : List Int} (h : DevL w b L σ) (hok : σ.Ok) (ho : σ.off = false) (harm : σ.arms = []) (haf : 1 ≤ af) (hga : w.heap[ga]? = some (.cells #[.int .i64 (af : Int), .slice (some ad) nk ck] 89 (0, 0)))
    (hkl0 : zs.length = nk) (hnk9 : nk ≤ 17592186043904) (hkt : kp = (zs.map Int.toNat).take m) (hmn : m = min nk σ.n) (hmc : nk ≤ ck) (hk0 : IntsP w (some ad) zs) (hnn : nonneg zs = true) (hav : ¬ L.av.ownBlock = some ga) :
    Calls Try.prog 13 #[.pointer (some ⟨b, 0, none⟩), .slice (some ⟨ga, 0, none⟩) 1 1] w fun e w' => e = .returned (.int .i64 0) ∧ ∃ L', DevL w' b L' { σ with arms := [(af, kp)] } ∧ (∀ k, Foot b L' { σ with arms := [(af, kp)] } k → Foot b L σ k ∨ w.heap.size ≤ k) ∧ Gr (Foot b L σ) w w' ∧ L'.N ≤ L.N := by
  have hmk : m ≤ nk := by omega
  have hkl : kp.length = m := by rw [hkt, List.length_take, List.length_map]; omega
  have hmx := hok.max
  have ks := pstate_any h
  rw [ho] at ks
  simp only [Bool.false_eq_true, if_false] at ks
  obtain ⟨ia, hia, hiz, his, hib⟩ := infoArm2
  have hav0 : w.ownsRow 0 89 2 L.av 0 [] := by
    obtain ⟨ks', hl', ho', _⟩ := h.arms
    rw [harm] at hl' ho'
    have : ks' = [] := List.eq_nil_of_length_eq_zero (by simpa using hl')
    subst this
    exact ho'
  obtain ⟨avp, avc, hava⟩ := own_slice hav0
  have hkc : ∀ j k : Nat, kp[j]? = some k → w.cell? (ad.add j) = some (.int .i64 (k : Int)) := fun j k hj => by
    rw [hkt, List.getElem?_take] at hj
    split at hj
    · rw [List.getElem?_map] at hj
      obtain ⟨z, hz, rfl⟩ := Option.map_eq_some_iff.1 hj
      obtain ⟨g, o, e, h1, _, _⟩ := hk0.at hz
      cases e
      have h2 : 0 ≤ z := by
        unfold nonneg at hnn
        have := List.all_eq_true.1 hnn z (List.mem_of_getElem? hz)
        simpa using this
      rw [Addr.add_mid, h1]
      congr 2
      omega
    · cases hj
  have km : ∀ W : World, Below w.heap.size w W → Calls Try.prog 38 #[.slice (some ad) nk ck] W fun e w' => e = .returned (.bool true) ∧ w' = W := fun W hB => by
    have h5 := pmayI (w := W) ck nk (hk0.below hB) hkl0 hnk9
    rwa [hnn] at h5
  have kc : ∀ W : World, Below w.heap.size w W → Calls Try.prog 39 #[.slice (some ad) m ck] W fun e w' => ∃ gn cn, e = .returned (.slice (some ⟨gn, 0, none⟩) m cn) ∧ W.heap.size ≤ gn ∧ (∃ c, w'.heap[gn]? = some (.cells c 3 (0, 0))) ∧ (∀ j k : Nat, kp[j]? = some k → w'.cell? ⟨gn, j, none⟩ = some (.int .i64 (k : Int))) ∧ Below W.heap.size W w' := fun W hB =>
    pcloneG ad m ck kp W hkl (fun j k hj => (hB.cell (World.block_lt_of_cell? _ _ (hkc j k hj))).trans (hkc j k hj)) (by omega)
  have fx : ∀ W : World, Below w.heap.size w W → W.cell? ⟨ga, 0, none⟩ = some (.int .i64 (af : Int)) ∧ W.cell? ⟨ga, 1, none⟩ = some (.slice (some ad) nk ck) ∧ W.cell? ⟨b, 5, none⟩ = some L.av ∧ W.cell? ⟨b, 1, none⟩ = some (.slice (some ⟨L.sb, 0, none⟩) σ.n L.cp) := fun W hB => by
    have e1 := (hB.block ga (lt_of_heap hga)).trans hga
    have e2 := (hB.block b h.lt).trans h.dev
    exact ⟨cell8 e1 0, cell8 e1 1, cell8 e2 5, cell8 e2 1⟩
  have ix := fun Y => index_arm ga 1 1 (by omega) Y
  have HD := hide h
  have HAV0 := hide hav0
  have HAVA := hide hava
  have KS := hide ks
  have KM := hide km
  have KC := hide kc
  have FX := hide fx
  have HKL := hide hkl
  have afI : ¬ (af : Int) < 1 := by omega
  have HMI := hide (show (m : Int) = min (nk : Int) (σ.n : Int) by omega)
  clear hmn hk0 hkt hnn hkl0
  clear h ks km kc fx hkl hok ho harm hkc hga hav0 hava hav
  go_enter Try.func13, Try.ntmps13
  go_wp2_with (go_at_call 37; refine (KS.out).mono ?_; rintro e w' ⟨rfl, hw⟩; obtain rfl := hw.symm)
  go_loopw [18] (fun iv wr => (iv = .int .i64 0 ∨ iv = .int .i64 1) ∧ Below w.heap.size w wr) (fun iv _ => (1 - (intOf iv).toNat))
  case atStart => exact ⟨.inl rfl, Below.refl _ _⟩
  case round =>
    obtain ⟨rfl | rfl, hB⟩ := hrel
    · obtain ⟨f0, f1, f5, f6⟩ := FX.out wr hB
      have hB1 : Below w.heap.size w (wr.alloc (.cells #[.int .i64 (af : Int), .slice (some ad) nk ck] 89)) := hB.alloc hB.size _
      have HB1 := hide hB1
      clear hB hB1
      go_wp2_with (go_at_call 38; refine (KM.out _ ?hx).mono ?_; (case hx => exact HB1.out); rintro e w' ⟨rfl, hw⟩; obtain rfl := hw.symm)
      go_roundw
      case rel => exact ⟨.inr rfl, HB1.out⟩
      case measure => simp [intOf]
    · obtain ⟨f0, f1, f5, f6⟩ := FX.out wr hB
      rw [HAVA.out] at f5
      have HB := hide hB
      clear hB
      go_wp2_with (fail)
      go_loopw [43] (fun iv wx => (iv = .int .i64 0 ∧ Below w.heap.size w wx) ∨ (iv = .int .i64 1 ∧ ∃ L', DevL wx b L' { σ with arms := [(af, kp)] } ∧ (∀ k, Foot b L' { σ with arms := [(af, kp)] } k → Foot b L σ k ∨ w.heap.size ≤ k) ∧ Gr (Foot b L σ) w wx ∧ L'.N ≤ L.N)) (fun iv _ => (1 - (intOf iv).toNat))
      case atStart => exact .inl ⟨rfl, HB.out⟩
      case round =>
        rcases hrel with ⟨rfl, hB⟩ | ⟨rfl, hF⟩
        · obtain ⟨f0, f1, f5x, f6x⟩ := FX.out wr hB
          have hB1 : Below w.heap.size w (wr.alloc (.cells #[.int .i64 (af : Int), .slice (some ad) nk ck] 89)) := hB.alloc hB.size _
          obtain ⟨_, _, g5, g6⟩ := FX.out _ hB1
          have ha1 := heapNew wr (.cells #[.int .i64 (af : Int), .slice (some ad) nk ck] 89)
          have s15 : (wr.alloc (.cells #[.int .i64 (af : Int), .slice (some ad) nk ck] 89)).drew.cell? ⟨wr.heap.size, 1, none⟩ = some (.slice (some ad) nk ck) ∧ (wr.alloc (.cells #[.int .i64 (af : Int), .slice (some ad) nk ck] 89)).drew.cell? ⟨b, 1, none⟩ = some (.slice (some ⟨L.sb, 0, none⟩) σ.n L.cp) := ⟨cell8 (w := (wr.alloc (.cells #[.int .i64 (af : Int), .slice (some ad) nk ck] 89)).drew) ha1 1, g6⟩
          have S15 := hide s15
          have HB1 := hide hB1
          have HA1 := hide ha1
          have HBW := hide hB
          clear hB hB1 ha1 s15 g5 g6 f5x f6x
          go_wp2_with (fail)
          refine wp_region_held_drew (S := fun Y => Y.cell? ⟨wr.heap.size, 1, none⟩ = some (.slice (some ad) nk ck) ∧ Y.cell? ⟨b, 1, none⟩ = some (.slice (some ⟨L.sb, 0, none⟩) σ.n L.cp)) (by kernel_rfl) S15.out (fun hS => ?_)
          refine wpAnyH_take (i := 0) (v := (.pointer (some ⟨wr.heap.size, 1, none⟩))) rfl (by kernel_rfl) (by kernel_rfl) (by kernel_rfl) (fun _ _ _ h => h) (Or.inl ⟨by kernel_rfl, fun w' hw => by (go_simp)⟩) hS ?_
          refine wpAnyH_take (i := 1) (v := (.slice (some ad) nk ck)) rfl (by kernel_rfl) (by kernel_rfl) (by kernel_rfl) (fun _ _ _ h => h) (Or.inl ⟨by kernel_rfl, fun w' hw => by (obtain ⟨z0, z1⟩ := hw; go_simp)⟩) hS ?_
          refine wpAnyH_take (i := 2) (v := (.pointer (some ⟨wr.heap.size, 1, none⟩))) rfl (by kernel_rfl) (by kernel_rfl) (by kernel_rfl) (fun _ _ _ h => h) (Or.inl ⟨by kernel_rfl, fun w' hw => by (go_simp)⟩) hS ?_
          refine wpAnyH_take (i := 3) (v := (.slice (some ad) nk ck)) rfl (by kernel_rfl) (by kernel_rfl) (by kernel_rfl) (fun _ _ _ h => h) (Or.inl ⟨by kernel_rfl, fun w' hw => by (obtain ⟨z0, z1⟩ := hw; go_simp)⟩) hS ?_
          refine wpAnyH_take (i := 4) (v := (.int .i64 (nk : Int))) rfl (by kernel_rfl) (by kernel_rfl) (by kernel_rfl) (fun _ _ _ h => h) (Or.inl ⟨by kernel_rfl, fun w' hw => by (go_simp)⟩) hS ?_
          refine wpAnyH_take (i := 5) (v := (.pointer (some ⟨b, 0, none⟩))) rfl (by kernel_rfl) (by kernel_rfl) (by kernel_rfl) (fun _ _ _ h => h) (Or.inl ⟨by kernel_rfl, fun w' hw => by (go_simp)⟩) hS ?_
          refine wpAnyH_take (i := 6) (v := (.pointer (some ⟨b, 0, none⟩))) rfl (by kernel_rfl) (by kernel_rfl) (by kernel_rfl) (fun _ _ _ h => h) (Or.inl ⟨by kernel_rfl, fun w' hw => by (go_simp)⟩) hS ?_
          refine wpAnyH_take (i := 7) (v := (.pointer (some ⟨b, 1, none⟩))) rfl (by kernel_rfl) (by kernel_rfl) (by kernel_rfl) (fun _ _ _ h => h) (Or.inl ⟨by kernel_rfl, fun w' hw => by (go_simp)⟩) hS ?_
          refine wpAnyH_take (i := 8) (v := (.slice (some ⟨L.sb, 0, none⟩) σ.n L.cp)) rfl (by kernel_rfl) (by kernel_rfl) (by kernel_rfl) (fun _ _ _ h => h) (Or.inl ⟨by kernel_rfl, fun w' hw => by (obtain ⟨z0, z1⟩ := hw; go_simp)⟩) hS ?_
          refine wpAnyH_take (i := 9) (v := (.int .i64 (σ.n : Int))) rfl (by kernel_rfl) (by kernel_rfl) (by kernel_rfl) (fun _ _ _ h => h) (Or.inl ⟨by kernel_rfl, fun w' hw => by (go_simp)⟩) hS ?_
          refine wpAnyH_take (i := 10) (v := (.int .i64 (m : Int))) rfl (by kernel_rfl) (by kernel_rfl) (by kernel_rfl) (fun _ _ _ h => h) (Or.inl ⟨by kernel_rfl, fun w' hw => by (have mI := HMI.out; go_simp; omega)⟩) hS ?_
          refine wpAnyH_take (i := 11) (v := (.slice (some ad) m ck)) rfl (by kernel_rfl) (by kernel_rfl) (by kernel_rfl) (fun _ _ _ h => h) (Or.inl ⟨by kernel_rfl, fun w' hw => by (have e := cut_intsG ad m nk ck hmk hmc w'; go_simp)⟩) hS ?_
          refine wpAnyH_take (i := 12) (v := (.slice (some ad) m ck)) rfl (by kernel_rfl) (by kernel_rfl) (by kernel_rfl) (fun _ _ _ h => h) (Or.inl ⟨by kernel_rfl, fun w' hw => by (go_simp)⟩) hS ?_
          refine wpAnyH_done (by kernel_rfl) ?_ _
          simp only [Act.put, List.getElem_toArray, List.getElem_cons_zero, List.getElem_cons_succ, List.setIfInBounds_toArray, List.set_cons_zero, List.set_cons_succ]
          go_wp2_with (fail)
          have hw0 : Below w.heap.size w (wr.alloc (.cells #[.int .i64 (af : Int), .slice (some ad) nk ck] 89)).drew := HB1.out.drew
          have ha0 : (wr.alloc (.cells #[.int .i64 (af : Int), .slice (some ad) nk ck] 89)).drew.heap[wr.heap.size]? = some (.cells #[.int .i64 (af : Int), .slice (some ad) nk ck] 89 (0, 0)) := HA1.out
          have hsz0 : wr.heap.size < (wr.alloc (.cells #[.int .i64 (af : Int), .slice (some ad) nk ck] 89)).drew.heap.size := lt_of_heap ha0
          generalize (wr.alloc (.cells #[.int .i64 (af : Int), .slice (some ad) nk ck] 89)).drew = W0 at *
          have hb0 := (hw0.block b HD.out.lt).trans HD.out.dev
          have s16 : W0.drew.cell? ⟨b, 5, none⟩ = some L.av ∧ W0.drew.cell? ⟨wr.heap.size, 0, none⟩ = some (.int .i64 (af : Int)) := ⟨cell8 (w := W0.drew) hb0 5, cell8 (w := W0.drew) ha0 0⟩
          have S16 := hide s16
          have HW0 := hide (hw0.drew : Below w.heap.size w W0.drew)
          have HB0 := hide hb0
          have HA0 := hide ha0
          have arm5 : ∀ (W4 : World) (gn cn : Nat), Below W0.drew.heap.size W0.drew W4 → ((W4.alloc (.cells #[.int .i64 (af : Int), .slice (some ⟨gn, 0, none⟩) m cn] 89)).cell? ⟨b, 5, none⟩ = some L.av ∧ (W4.alloc (.cells #[.int .i64 (af : Int), .slice (some ⟨gn, 0, none⟩) m cn] 89)).cell? ⟨wr.heap.size, 0, none⟩ = some (.int .i64 (af : Int))) ∧ (W4.alloc (.cells #[.int .i64 (af : Int), .slice (some ⟨gn, 0, none⟩) m cn] 89)).ownsRow 0 89 2 L.av 0 [] ∧ (∀ (j : Nat) (u : Value), ([.int .i64 (af : Int), .slice (some ⟨gn, 0, none⟩) m cn] : List Value)[j]? = some u → (W4.alloc (.cells #[.int .i64 (af : Int), .slice (some ⟨gn, 0, none⟩) m cn] 89)).cell? ((⟨W4.heap.size, 0, none⟩ : Addr).add j) = some u) ∧ (∀ W8 : World, (W4.alloc (.cells #[.int .i64 (af : Int), .slice (some ⟨gn, 0, none⟩) m cn] 89)).grownBy W8 L.av.ownBlock → W8.cell? ⟨b, 5, none⟩ = some L.av ∧ W8.frozen? ⟨b, 5, none⟩ = false ∧ W8.cell? ⟨wr.heap.size, 0, none⟩ = some (.int .i64 (af : Int))) := fun W4 gn cn hB4 => by
            have e4 : W0.drew.heap.size ≤ W4.heap.size := hB4.size
            have hB5 : Below W0.drew.heap.size W0.drew (W4.alloc (.cells #[.int .i64 (af : Int), .slice (some ⟨gn, 0, none⟩) m cn] 89)) := hB4.alloc e4 _
            have x1 : (W4.alloc (.cells #[.int .i64 (af : Int), .slice (some ⟨gn, 0, none⟩) m cn] 89)).heap[b]? = _ := (hB5.block b (lt_of_heap hb0)).trans hb0
            have x2 : (W4.alloc (.cells #[.int .i64 (af : Int), .slice (some ⟨gn, 0, none⟩) m cn] 89)).heap[wr.heap.size]? = _ := (hB5.block _ (lt_of_heap ha0)).trans ha0
            have hlt : ∀ g, L.av.ownBlock = some g → g < w.heap.size := fun g hg => by obtain ⟨c', hc'⟩ := own_type HAV0.out hg; exact lt_of_heap hc'
            refine ⟨⟨cell8 x1 5, cell8 x2 0⟩, ownsRow_of_block HAV0.out (fun g hg => (hB5.block g (Nat.lt_of_lt_of_le (hlt g hg) hw0.size)).trans (hw0.block g (hlt g hg))), fun j u hu => ?_, fun W8 hg8 => ?_⟩
            · have h := range_all (heapNew W4 (.cells ([.int .i64 (af : Int), .slice (some ⟨gn, 0, none⟩) m cn] : List Value).toArray 89)) j u hu
              rw [Addr.add_mid]; exact h
            · have y1 := (hg8.block b (lt_of_heap x1) (fun e => by obtain ⟨c', hc'⟩ := own_type HAV0.out e.symm; exact ne_ty hc' HD.out.dev (by decide) rfl)).trans x1
              have y2 := (hg8.block _ (lt_of_heap x2) (fun e => by have := hlt _ e.symm; have := HBW.out.size; omega)).trans x2
              exact ⟨cell8 y1 5, froz8 y1 5, cell8 y2 0⟩
          have ARM5 := hide arm5
          clear hw0 hb0 ha0 s16 arm5 HA1 HB1 S15
          refine wp_region_early 14 (fun Y => Y.cell? ⟨b, 5, none⟩ = some L.av ∧ Y.cell? ⟨wr.heap.size, 0, none⟩ = some (.int .i64 (af : Int))) (by kernel_rfl) S16.out (fun hS => ?_)
          refine wpAnyE_take (i := 0) (v := (.pointer (some ⟨b, 0, none⟩))) rfl (by kernel_rfl) (by kernel_rfl) (by kernel_rfl) (by kernel_rfl) (fun _ _ _ h => h) (Or.inl ⟨by kernel_rfl, fun w' hw => by (go_simp)⟩) hS ?_
          refine wpAnyE_take (i := 1) (v := (.pointer (some ⟨b, 0, none⟩))) rfl (by kernel_rfl) (by kernel_rfl) (by kernel_rfl) (by kernel_rfl) (fun _ _ _ h => h) (Or.inl ⟨by kernel_rfl, fun w' hw => by (go_simp)⟩) hS ?_
          refine wpAnyE_take (i := 2) (v := (.pointer (some ⟨b, 0, none⟩))) rfl (by kernel_rfl) (by kernel_rfl) (by kernel_rfl) (by kernel_rfl) (fun _ _ _ h => h) (Or.inl ⟨by kernel_rfl, fun w' hw => by (go_simp)⟩) hS ?_
          refine wpAnyE_take (i := 3) (v := (.pointer (some ⟨b, 5, none⟩))) rfl (by kernel_rfl) (by kernel_rfl) (by kernel_rfl) (by kernel_rfl) (fun _ _ _ h => h) (Or.inl ⟨by kernel_rfl, fun w' hw => by (go_simp)⟩) hS ?_
          refine wpAnyE_take (i := 4) (v := L.av) rfl (by kernel_rfl) (by kernel_rfl) (by kernel_rfl) (by kernel_rfl) (fun _ _ _ h => h) (Or.inl ⟨by kernel_rfl, fun w' hw => by (obtain ⟨z0, z1⟩ := hw; go_simp)⟩) hS ?_
          refine wpAnyE_take (i := 5) (v := (.pointer (some ⟨wr.heap.size, 0, none⟩))) rfl (by kernel_rfl) (by kernel_rfl) (by kernel_rfl) (by kernel_rfl) (fun _ _ _ h => h) (Or.inl ⟨by kernel_rfl, fun w' hw => by (go_simp)⟩) hS ?_
          refine wpAnyE_take (i := 6) (v := (.int .i64 (af : Int))) rfl (by kernel_rfl) (by kernel_rfl) (by kernel_rfl) (by kernel_rfl) (fun _ _ _ h => h) (Or.inl ⟨by kernel_rfl, fun w' hw => by (obtain ⟨z0, z1⟩ := hw; go_simp)⟩) hS ?_
          refine wpAnyE_take (i := 7) (v := (.slice (some ad) m ck)) rfl (by kernel_rfl) (by kernel_rfl) (by kernel_rfl) (by kernel_rfl) (fun _ _ _ h => h) (Or.inl ⟨by kernel_rfl, fun w' hw => by (go_simp)⟩) hS ?_
          refine wpAnyE_do (i := 8) (by kernel_rfl) rfl (by kernel_rfl) (fun K hK => ?_)
          go_wp2_with (go_at_call 39; refine (KC.out _ ?hx).mono ?_; (case hx => exact HW0.out); rintro e W4 ⟨gn, cn, rfl, hgn, hgc, hcl, hB4⟩; have HGN := hide hgn; have HGC := hide hgc; have HCL := hide hcl; have HB4 := hide hB4; clear hgn hgc hcl hB4)
          have s4 : W4.cell? ⟨b, 5, none⟩ = some L.av ∧ W4.cell? ⟨wr.heap.size, 0, none⟩ = some (.int .i64 (af : Int)) := ⟨cell8 ((HB4.out.block b (lt_of_heap HB0.out)).trans HB0.out) 5, cell8 ((HB4.out.block _ (lt_of_heap HA0.out)).trans HA0.out) 0⟩
          refine hK.out _ _ (fun _ => s4) ?_
          clear hK K
          refine wpAnyE_take (i := 9) (v := (.agg #[.int .i64 (af : Int), .slice (some ⟨gn, 0, none⟩) m cn])) rfl (by kernel_rfl) (by kernel_rfl) (by kernel_rfl) (by kernel_rfl) (fun _ _ _ h => h) (Or.inl ⟨by kernel_rfl, fun w' hw => by (go_simp)⟩) s4 ?_
          refine wpAnyE_do (i := 10) (by kernel_rfl) rfl (by kernel_rfl) (fun K hK => ?_)
          refine wp_slice_arm (.tmp 68) (by kernel_rfl) [.int .i64 (af : Int), .slice (some ⟨gn, 0, none⟩) m cn] (by kernel_rfl) (by simp) ?_
          obtain ⟨s5, qo, qc, q8⟩ := ARM5.out W4 gn cn HB4.out
          have QO := hide qo
          have QC := hide qc
          have Q8 := hide q8
          clear qo qc q8
          refine hK.out _ _ (fun _ => s5) ?_
          clear hK K
          refine wpAnyE_do (i := 11) (by kernel_rfl) rfl (by kernel_rfl) (fun K hK => ?_)
          refine wp_append_at (.tmp 63) (.tmp 69) 24 (by kernel_rfl) 0 89 ia (.agg #[.int .i64 0, .slice none 0 0]) 2 32 armSlice hia hiz his hib (by rfl) (by decide) L.av 0 [] (by kernel_rfl) QO.out ⟨W4.heap.size, 0, none⟩ 1 1 [.int .i64 (af : Int), .slice (some ⟨gn, 0, none⟩) m cn] (by kernel_rfl) (by simp) QC.out (by simp [Value.oneCell']) (by unfold maxLen; omega) (by omega) (Nat.zero_le _) ?_
          intro v8 W8 ho8 hg8 _ hl8
          obtain ⟨r0, rf, r1⟩ := Q8.out W8 hg8
          obtain ⟨a8, c8, rfl⟩ := own_slice ho8
          have HO8 := hide ho8
          have HG8 := hide hg8
          have HL8 := hide hl8
          clear ho8 hg8 hl8
          refine hK.out _ _ (fun _ => ⟨r0, r1⟩) ?_
          clear hK K
          refine wpAnyE_do (i := 12) (by kernel_rfl) rfl (by kernel_rfl) (fun K hK => ?_)
          go_simp
          refine hK.out _ _ (fun _ => ⟨r0, r1⟩) ?_
          clear hK K
          refine wpAnyE_do (i := 13) (by kernel_rfl) rfl (by kernel_rfl) (fun K hK => ?_)
          go_simp
          refine hK.out _ _ (fun _ => ⟨r0, r1⟩) ?_
          clear hK K
          refine wpAnyE_do (i := 14) (by kernel_rfl) rfl (by kernel_rfl) (fun K hK => ?_)
          go_simp
          refine hK.out _ _ (fun h => absurd rfl h) ?_
          clear hK K
          refine wpAnyE_done (by kernel_rfl) ?_ _
          try simp only [Act.put, List.getElem_toArray, List.getElem_cons_zero, List.getElem_cons_succ, List.setIfInBounds_toArray, List.set_cons_zero, List.set_cons_succ]
          go_wp2_with (fail)
          go_roundw
          case measure => simp [intOf]
          case rel =>
            refine .inr ⟨rfl, ?_⟩
            have hw0 : Below w.heap.size w W0.drew := HW0.out
            have hB4 := HB4.out
            have e4 : W0.drew.heap.size ≤ W4.heap.size := hB4.size
            have hB5 : Below W0.drew.heap.size W0.drew (W4.alloc (.cells #[.int .i64 (af : Int), .slice (some ⟨gn, 0, none⟩) m cn] 89)) := hB4.alloc e4 _
            have hw5 : Below w.heap.size w (W4.alloc (.cells #[.int .i64 (af : Int), .slice (some ⟨gn, 0, none⟩) m cn] 89)) := hw0.trans (hB5.mono hw0.size)
            have hg8 := HG8.out
            have hlt : ∀ g, L.av.ownBlock = some g → g < w.heap.size := fun g hg => by obtain ⟨c', hc'⟩ := own_type HAV0.out hg; exact lt_of_heap hc'
            have hnb : L.av.ownBlock ≠ some b := fun e => by obtain ⟨c', hc'⟩ := own_type HAV0.out e; exact ne_ty hc' HD.out.dev (by decide) rfl
            have x1 : (W4.alloc (.cells #[.int .i64 (af : Int), .slice (some ⟨gn, 0, none⟩) m cn] 89)).heap[b]? = _ := (hw5.block b HD.out.lt).trans HD.out.dev
            have y1 : W8.heap[b]? = _ := (hg8.block b (lt_of_heap x1) (fun e => hnb e.symm)).trans x1
            have z1 := heap_set1 W8 b 5 _ _ (.slice a8 1 c8) y1
            have hgn5 : gn ≠ b ∧ L.av.ownBlock ≠ some gn ∧ gn < W4.heap.size := by
              obtain ⟨c, hc⟩ := HGC.out
              have h1 := HGN.out
              have h2 := HD.out.lt
              have h3 := hw0.size
              refine ⟨by omega, fun e => by have := hlt gn e; omega, lt_of_heap hc⟩
            have q5 : ∀ k, k < (W4.alloc (.cells #[.int .i64 (af : Int), .slice (some ⟨gn, 0, none⟩) m cn] 89)).heap.size → k ≠ b → L.av.ownBlock ≠ some k → (W8.setCell ⟨b, 5, none⟩ (.slice a8 1 c8)).heap[k]? = (W4.alloc (.cells #[.int .i64 (af : Int), .slice (some ⟨gn, 0, none⟩) m cn] 89)).heap[k]? := fun k h1 h2 h3 => (heap_set_ne _ b 5 k _ h2).trans (hg8.block k h1 (fun e => h3 e.symm))
            have hgn6 : (W8.setCell ⟨b, 5, none⟩ (.slice a8 1 c8)).heap[gn]? = W4.heap[gn]? := (q5 gn (by simp; omega) hgn5.1 hgn5.2.1).trans (Below.heap_alloc _ _ _ hgn5.2.2)
            have hown : (W8.setCell ⟨b, 5, none⟩ (.slice a8 1 c8)).ownsRow 0 89 2 (.slice a8 1 c8) 1 [.int .i64 (af : Int), .slice (some ⟨gn, 0, none⟩) m cn] := ownsRow_of_block HO8.out (fun g hg => heap_set_ne _ b 5 g _ (fun e => by
              obtain ⟨c', hc'⟩ := own_type HO8.out hg
              exact ne_ty hc' y1 (by decide) e))
            have hd := HD.out.armed (w' := W8.setCell ⟨b, 5, none⟩ (.slice a8 1 c8)) (v8 := .slice a8 1 c8) (gk := gn) (af := af) (kp := kp) (by rw [z1]; rfl) hown ⟨some ⟨gn, 0, none⟩, cn, by rw [HKL.out], .inr ⟨gn, rfl, rfl, fun j x hj => (World.cell?_of_block (a := ⟨gn, j, none⟩) hgn6).trans (HCL.out j x hj)⟩⟩ (by obtain ⟨c, hc⟩ := HGC.out; exact ⟨c, hgn6.trans hc⟩) (fun k h1 h2 h3 => (q5 k (Nat.lt_of_lt_of_le h1 hw5.size) h2 h3).trans (hw5.block k h1))
            refine ⟨_, hd, fun k hk => ?_, ?_, Nat.le_refl _⟩
            · rcases hk with r | r | r | r | r | r | r
              · exact .inl (.inl r)
              · exact .inl (.inr (.inl r))
              · exact .inl (.inr (.inr (.inl r)))
              · exact .inl (.inr (.inr (.inr (.inl r))))
              · exact .inl (.inr (.inr (.inr (.inr (.inl r)))))
              · rcases HL8.out with e | e
                · rw [e] at r; exact .inl (.inr (.inr (.inr (.inr (.inr (.inl r))))))
                · rw [e] at r; cases r; exact .inr hw5.size
              · have h1 := HGN.out
                have h3 := hw0.size
                have r : k = gn := r
                exact .inr (by omega)
            · exact ((Gr.of_below hw5 : Gr (Foot b L σ) w (W4.alloc (.cells #[.int .i64 (af : Int), .slice (some ⟨gn, 0, none⟩) m cn] 89))).trans (Gr.of_grown (X := Foot b L σ) hg8 (fun k hk => .inl (.inr (.inr (.inr (.inr (.inr (.inl hk)))))))) (fun i h => .inl h)).trans (Gr.set W8 b 5 _ (X := Foot b L σ) (.inl rfl)) (fun i h => .inl h)
        · have HF := hide hF
          clear hF
          go_wp2_with (fail)
          go_ret
          exact ⟨rfl, HF.out⟩
end
end Go.Proofs.Ytgfgihpkbbjkfaa
namespace Go.Proofs.Ytgfgihpkbbjkfaa
open Go.RowKit Go.Shelf
set_option linter.unusedVariables false

theorem cut_nil (w : World) : (Instr.sliceAt 87 (.slice none 0 0) none (some (.int .i64 0)) none).run Try.prog w = .ok (.slice none 0 0) w := by
  obtain ⟨i, h1, _⟩ := infoInt2
  simp [Instr.sliceAt, Instr.slice, Sem.run_bind, run_underlying Try.underlying87, Instr.sliceBounds, Instr.sliceBound, asIntOf, sizeOf, typeInfo, h1]
theorem pclone_nil (w : World) : Calls Try.prog 39 #[.slice none 0 0] w fun e w' => e = .returned (.slice none 0 0) ∧ Below w.heap.size w w' := by
  have hq : (binOp .eql 87 (.slice none 0 0) (.slice none 0 0)).run Try.prog w = .ok (.bool true) w := by
    have h : ∀ d : Nat, (Op.equalIn (d + 1) 87 (.slice none 0 0) (.slice none 0 0)).run Try.prog w = .ok true w := fun d => by
      simp [Op.equalIn, run_underlying Try.underlying87]
    simp only [binOp]
    simp [Op.equal, Op.maxDepth, h 9999]
  go_enter Try.func39, Try.ntmps39
  go_wp2
  go_ret
  exact ⟨rfl, Below.refl _ _⟩
section
variable {w : World} {b : Nat} {L : Lay} {σ : St}
/-- A loss waits. -/
theorem DevL.armed_nil {w' : World} {v8 kv : Value} {af : Nat} {kp : List Nat} (h : DevL w b L σ) (hb : w'.heap[b]? = some (.cells (devC b { L with av := v8 } { σ with arms := [(af, kp)] }) 69 (0, 0))) (hrow : w'.ownsRow 0 89 2 v8 1 [.int .i64 (af : Int), kv])
    (hkeep : KeepAt w' (fun _ => False) kv kp) (hk : ∀ k, k < w.heap.size → k ≠ b → L.av.ownBlock ≠ some k → w'.heap[k]? = w.heap[k]?) :
    DevL w' b { L with av := v8, KB := fun _ => False } { σ with arms := [(af, kp)] } := by
  have hs : ∀ (k : Nat) (c : Array Value) t fr, w.heap[k]? = some (Obj.cells c t fr) → t ≠ 69 → t ≠ 89 → w'.heap[k]? = w.heap[k]? := fun k c t fr h1 h2 h3 => hk k (lt_of_heap h1) (ne_ty h1 h.dev h2) (fun e => by obtain ⟨c', hc'⟩ := h.av_row e; exact ne_ty h1 hc' h3 rfl)
  have hm : ∀ (k : Nat) es q, w.heap[k]? = some (Obj.map es q) → w'.heap[k]? = w.heap[k]? := fun k es q h1 => hk k (lt_of_heap h1) (ne_map h.dev h1).symm (fun e => by obtain ⟨c', hc'⟩ := h.av_row e; exact ne_map hc' h1 rfl)
  obtain ⟨e1, k1, hob⟩ := h.old.block
  obtain ⟨e2, k2, hfb⟩ := h.flm.block
  refine ⟨hb, (hs _ _ _ _ h.seen (by decide) (by decide)).trans h.seen, h.old.of_block (hm _ _ _ hob), h.flm.of_block (hm _ _ _ hfb),
    fun i hi => (h.pasts i hi).keep (hs _ _ _ _ (h.pasts i hi).1 (by decide) (by decide)) (fun g' hg' => ?_), h.pne, h.rne, h.mne, ⟨[kv], rfl, hrow, fun i k a h1 h2 => ?_⟩, fun k hkb => ?_⟩
  · obtain ⟨c, hc⟩ := (h.pasts i hi).row hg'
    exact hs _ _ _ _ hc (by decide) (by decide)
  · cases i with
    | zero => cases h1; cases h2; exact hkeep
    | succ i => simp at h1
  · exact hkb.elim
set_option maxRecDepth 100000 in
set_option maxHeartbeats 400000 in
/-- Arm of one loss. -/
theorem parm_nil {af ga : Nat} (h : DevL w b L σ) (hok : σ.Ok) (ho : σ.off = false) (harm : σ.arms = []) (haf : 1 ≤ af) (hga : w.heap[ga]? = some (.cells #[.int .i64 (af : Int), .slice none 0 0] 89 (0, 0)))
    (hav : ¬ L.av.ownBlock = some ga) :
    Calls Try.prog 13 #[.pointer (some ⟨b, 0, none⟩), .slice (some ⟨ga, 0, none⟩) 1 1] w fun e w' => e = .returned (.int .i64 0) ∧ ∃ L', DevL w' b L' { σ with arms := [(af, [])] } ∧ (∀ k, Foot b L' { σ with arms := [(af, [])] } k → Foot b L σ k ∨ w.heap.size ≤ k) ∧ Gr (Foot b L σ) w w' ∧ L'.N ≤ L.N := by
  have hmx := hok.max
  have ks := pstate_any h
  rw [ho] at ks
  simp only [Bool.false_eq_true, if_false] at ks
  obtain ⟨ia, hia, hiz, his, hib⟩ := infoArm2
  have hav0 : w.ownsRow 0 89 2 L.av 0 [] := by
    obtain ⟨ks', hl', ho', _⟩ := h.arms
    rw [harm] at hl' ho'
    have : ks' = [] := List.eq_nil_of_length_eq_zero (by simpa using hl')
    subst this
    exact ho'
  obtain ⟨avp, avc, hava⟩ := own_slice hav0
  have km : ∀ W : World, Below w.heap.size w W → Calls Try.prog 38 #[.slice none 0 0] W fun e w' => e = .returned (.bool true) ∧ w' = W := fun W hB => pmay_any (w := W) (ks := []) 0 ⟨by simp, .inl ⟨rfl, rfl⟩⟩ (by simp)
  have kc : ∀ W : World, Below w.heap.size w W → Calls Try.prog 39 #[.slice none 0 0] W fun e w' => e = .returned (.slice none 0 0) ∧ Below W.heap.size W w' := fun W hB => pclone_nil W
  have fx : ∀ W : World, Below w.heap.size w W → W.cell? ⟨ga, 0, none⟩ = some (.int .i64 (af : Int)) ∧ W.cell? ⟨ga, 1, none⟩ = some (.slice none 0 0) ∧ W.cell? ⟨b, 5, none⟩ = some L.av ∧ W.cell? ⟨b, 1, none⟩ = some (.slice (some ⟨L.sb, 0, none⟩) σ.n L.cp) := fun W hB => by
    have e1 := (hB.block ga (lt_of_heap hga)).trans hga
    have e2 := (hB.block b h.lt).trans h.dev
    exact ⟨cell8 e1 0, cell8 e1 1, cell8 e2 5, cell8 e2 1⟩
  have ix := fun Y => index_arm ga 1 1 (by omega) Y
  have HD := hide h
  have HAV0 := hide hav0
  have HAVA := hide hava
  have KS := hide ks
  have KM := hide km
  have KC := hide kc
  have FX := hide fx
  have afI : ¬ (af : Int) < 1 := by omega
  clear h ks km kc fx hok ho harm hga hav0 hava hav
  go_enter Try.func13, Try.ntmps13
  go_wp2_with (go_at_call 37; refine (KS.out).mono ?_; rintro e w' ⟨rfl, hw⟩; obtain rfl := hw.symm)
  go_loopw [18] (fun iv wr => (iv = .int .i64 0 ∨ iv = .int .i64 1) ∧ Below w.heap.size w wr) (fun iv _ => (1 - (intOf iv).toNat))
  case atStart => exact ⟨.inl rfl, Below.refl _ _⟩
  case round =>
    obtain ⟨rfl | rfl, hB⟩ := hrel
    · obtain ⟨f0, f1, f5, f6⟩ := FX.out wr hB
      have hB1 : Below w.heap.size w (wr.alloc (.cells #[.int .i64 (af : Int), .slice none 0 0] 89)) := hB.alloc hB.size _
      have HB1 := hide hB1
      clear hB hB1
      go_wp2_with (go_at_call 38; refine (KM.out _ ?hx).mono ?_; (case hx => exact HB1.out); rintro e w' ⟨rfl, hw⟩; obtain rfl := hw.symm)
      go_roundw
      case rel => exact ⟨.inr rfl, HB1.out⟩
      case measure => simp [intOf]
    · obtain ⟨f0, f1, f5, f6⟩ := FX.out wr hB
      rw [HAVA.out] at f5
      have HB := hide hB
      clear hB
      go_wp2_with (fail)
      go_loopw [43] (fun iv wx => (iv = .int .i64 0 ∧ Below w.heap.size w wx) ∨ (iv = .int .i64 1 ∧ ∃ L', DevL wx b L' { σ with arms := [(af, [])] } ∧ (∀ k, Foot b L' { σ with arms := [(af, [])] } k → Foot b L σ k ∨ w.heap.size ≤ k) ∧ Gr (Foot b L σ) w wx ∧ L'.N ≤ L.N)) (fun iv _ => (1 - (intOf iv).toNat))
      case atStart => exact .inl ⟨rfl, HB.out⟩
      case round =>
        rcases hrel with ⟨rfl, hB⟩ | ⟨rfl, hF⟩
        · obtain ⟨f0, f1, f5x, f6x⟩ := FX.out wr hB
          have hB1 : Below w.heap.size w (wr.alloc (.cells #[.int .i64 (af : Int), .slice none 0 0] 89)) := hB.alloc hB.size _
          obtain ⟨_, _, g5, g6⟩ := FX.out _ hB1
          have ha1 := heapNew wr (.cells #[.int .i64 (af : Int), .slice none 0 0] 89)
          have s15 : (wr.alloc (.cells #[.int .i64 (af : Int), .slice none 0 0] 89)).drew.cell? ⟨wr.heap.size, 1, none⟩ = some (.slice none 0 0) ∧ (wr.alloc (.cells #[.int .i64 (af : Int), .slice none 0 0] 89)).drew.cell? ⟨b, 1, none⟩ = some (.slice (some ⟨L.sb, 0, none⟩) σ.n L.cp) := ⟨cell8 (w := (wr.alloc (.cells #[.int .i64 (af : Int), .slice none 0 0] 89)).drew) ha1 1, g6⟩
          have S15 := hide s15
          have HB1 := hide hB1
          have HA1 := hide ha1
          have HBW := hide hB
          clear hB hB1 ha1 s15 g5 g6 f5x f6x
          go_wp2_with (fail)
          refine wp_region_held_drew (S := fun Y => Y.cell? ⟨wr.heap.size, 1, none⟩ = some (.slice none 0 0) ∧ Y.cell? ⟨b, 1, none⟩ = some (.slice (some ⟨L.sb, 0, none⟩) σ.n L.cp)) (by kernel_rfl) S15.out (fun hS => ?_)
          refine wpAnyH_take (i := 0) (v := (.pointer (some ⟨wr.heap.size, 1, none⟩))) rfl (by kernel_rfl) (by kernel_rfl) (by kernel_rfl) (fun _ _ _ h => h) (Or.inl ⟨by kernel_rfl, fun w' hw => by (go_simp)⟩) hS ?_
          refine wpAnyH_take (i := 1) (v := (.slice none 0 0)) rfl (by kernel_rfl) (by kernel_rfl) (by kernel_rfl) (fun _ _ _ h => h) (Or.inl ⟨by kernel_rfl, fun w' hw => by (obtain ⟨z0, z1⟩ := hw; go_simp)⟩) hS ?_
          refine wpAnyH_take (i := 2) (v := (.pointer (some ⟨wr.heap.size, 1, none⟩))) rfl (by kernel_rfl) (by kernel_rfl) (by kernel_rfl) (fun _ _ _ h => h) (Or.inl ⟨by kernel_rfl, fun w' hw => by (go_simp)⟩) hS ?_
          refine wpAnyH_take (i := 3) (v := (.slice none 0 0)) rfl (by kernel_rfl) (by kernel_rfl) (by kernel_rfl) (fun _ _ _ h => h) (Or.inl ⟨by kernel_rfl, fun w' hw => by (obtain ⟨z0, z1⟩ := hw; go_simp)⟩) hS ?_
          refine wpAnyH_take (i := 4) (v := (.int .i64 0)) rfl (by kernel_rfl) (by kernel_rfl) (by kernel_rfl) (fun _ _ _ h => h) (Or.inl ⟨by kernel_rfl, fun w' hw => by (go_simp)⟩) hS ?_
          refine wpAnyH_take (i := 5) (v := (.pointer (some ⟨b, 0, none⟩))) rfl (by kernel_rfl) (by kernel_rfl) (by kernel_rfl) (fun _ _ _ h => h) (Or.inl ⟨by kernel_rfl, fun w' hw => by (go_simp)⟩) hS ?_
          refine wpAnyH_take (i := 6) (v := (.pointer (some ⟨b, 0, none⟩))) rfl (by kernel_rfl) (by kernel_rfl) (by kernel_rfl) (fun _ _ _ h => h) (Or.inl ⟨by kernel_rfl, fun w' hw => by (go_simp)⟩) hS ?_
          refine wpAnyH_take (i := 7) (v := (.pointer (some ⟨b, 1, none⟩))) rfl (by kernel_rfl) (by kernel_rfl) (by kernel_rfl) (fun _ _ _ h => h) (Or.inl ⟨by kernel_rfl, fun w' hw => by (go_simp)⟩) hS ?_
          refine wpAnyH_take (i := 8) (v := (.slice (some ⟨L.sb, 0, none⟩) σ.n L.cp)) rfl (by kernel_rfl) (by kernel_rfl) (by kernel_rfl) (fun _ _ _ h => h) (Or.inl ⟨by kernel_rfl, fun w' hw => by (obtain ⟨z0, z1⟩ := hw; go_simp)⟩) hS ?_
          refine wpAnyH_take (i := 9) (v := (.int .i64 (σ.n : Int))) rfl (by kernel_rfl) (by kernel_rfl) (by kernel_rfl) (fun _ _ _ h => h) (Or.inl ⟨by kernel_rfl, fun w' hw => by (go_simp)⟩) hS ?_
          refine wpAnyH_take (i := 10) (v := (.int .i64 0)) rfl (by kernel_rfl) (by kernel_rfl) (by kernel_rfl) (fun _ _ _ h => h) (Or.inl ⟨by kernel_rfl, fun w' hw => by (go_simp; intro hx; omega)⟩) hS ?_
          refine wpAnyH_take (i := 11) (v := (.slice none 0 0)) rfl (by kernel_rfl) (by kernel_rfl) (by kernel_rfl) (fun _ _ _ h => h) (Or.inl ⟨by kernel_rfl, fun w' hw => by (have e := cut_nil w'; go_simp)⟩) hS ?_
          refine wpAnyH_take (i := 12) (v := (.slice none 0 0)) rfl (by kernel_rfl) (by kernel_rfl) (by kernel_rfl) (fun _ _ _ h => h) (Or.inl ⟨by kernel_rfl, fun w' hw => by (go_simp)⟩) hS ?_
          refine wpAnyH_done (by kernel_rfl) ?_ _
          simp only [Act.put, List.getElem_toArray, List.getElem_cons_zero, List.getElem_cons_succ, List.setIfInBounds_toArray, List.set_cons_zero, List.set_cons_succ]
          go_wp2_with (fail)
          have hw0 : Below w.heap.size w (wr.alloc (.cells #[.int .i64 (af : Int), .slice none 0 0] 89)).drew := HB1.out.drew
          have ha0 : (wr.alloc (.cells #[.int .i64 (af : Int), .slice none 0 0] 89)).drew.heap[wr.heap.size]? = some (.cells #[.int .i64 (af : Int), .slice none 0 0] 89 (0, 0)) := HA1.out
          have hsz0 : wr.heap.size < (wr.alloc (.cells #[.int .i64 (af : Int), .slice none 0 0] 89)).drew.heap.size := lt_of_heap ha0
          generalize (wr.alloc (.cells #[.int .i64 (af : Int), .slice none 0 0] 89)).drew = W0 at *
          have hb0 := (hw0.block b HD.out.lt).trans HD.out.dev
          have s16 : W0.drew.cell? ⟨b, 5, none⟩ = some L.av ∧ W0.drew.cell? ⟨wr.heap.size, 0, none⟩ = some (.int .i64 (af : Int)) := ⟨cell8 (w := W0.drew) hb0 5, cell8 (w := W0.drew) ha0 0⟩
          have S16 := hide s16
          have HW0 := hide (hw0.drew : Below w.heap.size w W0.drew)
          have HB0 := hide hb0
          have HA0 := hide ha0
          have arm5 : ∀ (W4 : World), Below W0.drew.heap.size W0.drew W4 → ((W4.alloc (.cells #[.int .i64 (af : Int), .slice none 0 0] 89)).cell? ⟨b, 5, none⟩ = some L.av ∧ (W4.alloc (.cells #[.int .i64 (af : Int), .slice none 0 0] 89)).cell? ⟨wr.heap.size, 0, none⟩ = some (.int .i64 (af : Int))) ∧ (W4.alloc (.cells #[.int .i64 (af : Int), .slice none 0 0] 89)).ownsRow 0 89 2 L.av 0 [] ∧ (∀ (j : Nat) (u : Value), ([.int .i64 (af : Int), .slice none 0 0] : List Value)[j]? = some u → (W4.alloc (.cells #[.int .i64 (af : Int), .slice none 0 0] 89)).cell? ((⟨W4.heap.size, 0, none⟩ : Addr).add j) = some u) ∧ (∀ W8 : World, (W4.alloc (.cells #[.int .i64 (af : Int), .slice none 0 0] 89)).grownBy W8 L.av.ownBlock → W8.cell? ⟨b, 5, none⟩ = some L.av ∧ W8.frozen? ⟨b, 5, none⟩ = false ∧ W8.cell? ⟨wr.heap.size, 0, none⟩ = some (.int .i64 (af : Int))) := fun W4 hB4 => by
            have e4 : W0.drew.heap.size ≤ W4.heap.size := hB4.size
            have hB5 : Below W0.drew.heap.size W0.drew (W4.alloc (.cells #[.int .i64 (af : Int), .slice none 0 0] 89)) := hB4.alloc e4 _
            have x1 : (W4.alloc (.cells #[.int .i64 (af : Int), .slice none 0 0] 89)).heap[b]? = _ := (hB5.block b (lt_of_heap hb0)).trans hb0
            have x2 : (W4.alloc (.cells #[.int .i64 (af : Int), .slice none 0 0] 89)).heap[wr.heap.size]? = _ := (hB5.block _ (lt_of_heap ha0)).trans ha0
            have hlt : ∀ g, L.av.ownBlock = some g → g < w.heap.size := fun g hg => by obtain ⟨c', hc'⟩ := own_type HAV0.out hg; exact lt_of_heap hc'
            refine ⟨⟨cell8 x1 5, cell8 x2 0⟩, ownsRow_of_block HAV0.out (fun g hg => (hB5.block g (Nat.lt_of_lt_of_le (hlt g hg) hw0.size)).trans (hw0.block g (hlt g hg))), fun j u hu => ?_, fun W8 hg8 => ?_⟩
            · have h := range_all (heapNew W4 (.cells ([.int .i64 (af : Int), .slice none 0 0] : List Value).toArray 89)) j u hu
              rw [Addr.add_mid]; exact h
            · have y1 := (hg8.block b (lt_of_heap x1) (fun e => by obtain ⟨c', hc'⟩ := own_type HAV0.out e.symm; exact ne_ty hc' HD.out.dev (by decide) rfl)).trans x1
              have y2 := (hg8.block _ (lt_of_heap x2) (fun e => by have := hlt _ e.symm; have := HBW.out.size; omega)).trans x2
              exact ⟨cell8 y1 5, froz8 y1 5, cell8 y2 0⟩
          have ARM5 := hide arm5
          clear hw0 hb0 ha0 s16 arm5 HA1 HB1 S15
          refine wp_region_early 14 (fun Y => Y.cell? ⟨b, 5, none⟩ = some L.av ∧ Y.cell? ⟨wr.heap.size, 0, none⟩ = some (.int .i64 (af : Int))) (by kernel_rfl) S16.out (fun hS => ?_)
          refine wpAnyE_take (i := 0) (v := (.pointer (some ⟨b, 0, none⟩))) rfl (by kernel_rfl) (by kernel_rfl) (by kernel_rfl) (by kernel_rfl) (fun _ _ _ h => h) (Or.inl ⟨by kernel_rfl, fun w' hw => by (go_simp)⟩) hS ?_
          refine wpAnyE_take (i := 1) (v := (.pointer (some ⟨b, 0, none⟩))) rfl (by kernel_rfl) (by kernel_rfl) (by kernel_rfl) (by kernel_rfl) (fun _ _ _ h => h) (Or.inl ⟨by kernel_rfl, fun w' hw => by (go_simp)⟩) hS ?_
          refine wpAnyE_take (i := 2) (v := (.pointer (some ⟨b, 0, none⟩))) rfl (by kernel_rfl) (by kernel_rfl) (by kernel_rfl) (by kernel_rfl) (fun _ _ _ h => h) (Or.inl ⟨by kernel_rfl, fun w' hw => by (go_simp)⟩) hS ?_
          refine wpAnyE_take (i := 3) (v := (.pointer (some ⟨b, 5, none⟩))) rfl (by kernel_rfl) (by kernel_rfl) (by kernel_rfl) (by kernel_rfl) (fun _ _ _ h => h) (Or.inl ⟨by kernel_rfl, fun w' hw => by (go_simp)⟩) hS ?_
          refine wpAnyE_take (i := 4) (v := L.av) rfl (by kernel_rfl) (by kernel_rfl) (by kernel_rfl) (by kernel_rfl) (fun _ _ _ h => h) (Or.inl ⟨by kernel_rfl, fun w' hw => by (obtain ⟨z0, z1⟩ := hw; go_simp)⟩) hS ?_
          refine wpAnyE_take (i := 5) (v := (.pointer (some ⟨wr.heap.size, 0, none⟩))) rfl (by kernel_rfl) (by kernel_rfl) (by kernel_rfl) (by kernel_rfl) (fun _ _ _ h => h) (Or.inl ⟨by kernel_rfl, fun w' hw => by (go_simp)⟩) hS ?_
          refine wpAnyE_take (i := 6) (v := (.int .i64 (af : Int))) rfl (by kernel_rfl) (by kernel_rfl) (by kernel_rfl) (by kernel_rfl) (fun _ _ _ h => h) (Or.inl ⟨by kernel_rfl, fun w' hw => by (obtain ⟨z0, z1⟩ := hw; go_simp)⟩) hS ?_
          refine wpAnyE_take (i := 7) (v := (.slice none 0 0)) rfl (by kernel_rfl) (by kernel_rfl) (by kernel_rfl) (by kernel_rfl) (fun _ _ _ h => h) (Or.inl ⟨by kernel_rfl, fun w' hw => by (go_simp)⟩) hS ?_
          refine wpAnyE_do (i := 8) (by kernel_rfl) rfl (by kernel_rfl) (fun K hK => ?_)
          go_wp2_with (go_at_call 39; refine (KC.out _ ?hx).mono ?_; (case hx => exact HW0.out); rintro e W4 ⟨rfl, hB4⟩; have HB4 := hide hB4; clear hB4)
          have s4 : W4.cell? ⟨b, 5, none⟩ = some L.av ∧ W4.cell? ⟨wr.heap.size, 0, none⟩ = some (.int .i64 (af : Int)) := ⟨cell8 ((HB4.out.block b (lt_of_heap HB0.out)).trans HB0.out) 5, cell8 ((HB4.out.block _ (lt_of_heap HA0.out)).trans HA0.out) 0⟩
          refine hK.out _ _ (fun _ => s4) ?_
          clear hK K
          refine wpAnyE_take (i := 9) (v := (.agg #[.int .i64 (af : Int), .slice none 0 0])) rfl (by kernel_rfl) (by kernel_rfl) (by kernel_rfl) (by kernel_rfl) (fun _ _ _ h => h) (Or.inl ⟨by kernel_rfl, fun w' hw => by (go_simp)⟩) s4 ?_
          refine wpAnyE_do (i := 10) (by kernel_rfl) rfl (by kernel_rfl) (fun K hK => ?_)
          refine wp_slice_arm (.tmp 68) (by kernel_rfl) [.int .i64 (af : Int), .slice none 0 0] (by kernel_rfl) (by simp) ?_
          obtain ⟨s5, qo, qc, q8⟩ := ARM5.out W4 HB4.out
          have QO := hide qo
          have QC := hide qc
          have Q8 := hide q8
          clear qo qc q8
          refine hK.out _ _ (fun _ => s5) ?_
          clear hK K
          refine wpAnyE_do (i := 11) (by kernel_rfl) rfl (by kernel_rfl) (fun K hK => ?_)
          refine wp_append_at (.tmp 63) (.tmp 69) 24 (by kernel_rfl) 0 89 ia (.agg #[.int .i64 0, .slice none 0 0]) 2 32 armSlice hia hiz his hib (by rfl) (by decide) L.av 0 [] (by kernel_rfl) QO.out ⟨W4.heap.size, 0, none⟩ 1 1 [.int .i64 (af : Int), .slice none 0 0] (by kernel_rfl) (by simp) QC.out (by simp [Value.oneCell']) (by unfold maxLen; omega) (by omega) (Nat.zero_le _) ?_
          intro v8 W8 ho8 hg8 _ hl8
          obtain ⟨r0, rf, r1⟩ := Q8.out W8 hg8
          obtain ⟨a8, c8, rfl⟩ := own_slice ho8
          have HO8 := hide ho8
          have HG8 := hide hg8
          have HL8 := hide hl8
          clear ho8 hg8 hl8
          refine hK.out _ _ (fun _ => ⟨r0, r1⟩) ?_
          clear hK K
          refine wpAnyE_do (i := 12) (by kernel_rfl) rfl (by kernel_rfl) (fun K hK => ?_)
          go_simp
          refine hK.out _ _ (fun _ => ⟨r0, r1⟩) ?_
          clear hK K
          refine wpAnyE_do (i := 13) (by kernel_rfl) rfl (by kernel_rfl) (fun K hK => ?_)
          go_simp
          refine hK.out _ _ (fun _ => ⟨r0, r1⟩) ?_
          clear hK K
          refine wpAnyE_do (i := 14) (by kernel_rfl) rfl (by kernel_rfl) (fun K hK => ?_)
          go_simp
          refine hK.out _ _ (fun h => absurd rfl h) ?_
          clear hK K
          refine wpAnyE_done (by kernel_rfl) ?_ _
          try simp only [Act.put, List.getElem_toArray, List.getElem_cons_zero, List.getElem_cons_succ, List.setIfInBounds_toArray, List.set_cons_zero, List.set_cons_succ]
          go_wp2_with (fail)
          go_roundw
          case measure => simp [intOf]
          case rel =>
            refine .inr ⟨rfl, ?_⟩
            have hw0 : Below w.heap.size w W0.drew := HW0.out
            have hB4 := HB4.out
            have e4 : W0.drew.heap.size ≤ W4.heap.size := hB4.size
            have hB5 : Below W0.drew.heap.size W0.drew (W4.alloc (.cells #[.int .i64 (af : Int), .slice none 0 0] 89)) := hB4.alloc e4 _
            have hw5 : Below w.heap.size w (W4.alloc (.cells #[.int .i64 (af : Int), .slice none 0 0] 89)) := hw0.trans (hB5.mono hw0.size)
            have hg8 := HG8.out
            have hlt : ∀ g, L.av.ownBlock = some g → g < w.heap.size := fun g hg => by obtain ⟨c', hc'⟩ := own_type HAV0.out hg; exact lt_of_heap hc'
            have hnb : L.av.ownBlock ≠ some b := fun e => by obtain ⟨c', hc'⟩ := own_type HAV0.out e; exact ne_ty hc' HD.out.dev (by decide) rfl
            have x1 : (W4.alloc (.cells #[.int .i64 (af : Int), .slice none 0 0] 89)).heap[b]? = _ := (hw5.block b HD.out.lt).trans HD.out.dev
            have y1 : W8.heap[b]? = _ := (hg8.block b (lt_of_heap x1) (fun e => hnb e.symm)).trans x1
            have z1 := heap_set1 W8 b 5 _ _ (.slice a8 1 c8) y1
            have q5 : ∀ k, k < (W4.alloc (.cells #[.int .i64 (af : Int), .slice none 0 0] 89)).heap.size → k ≠ b → L.av.ownBlock ≠ some k → (W8.setCell ⟨b, 5, none⟩ (.slice a8 1 c8)).heap[k]? = (W4.alloc (.cells #[.int .i64 (af : Int), .slice none 0 0] 89)).heap[k]? := fun k h1 h2 h3 => (heap_set_ne _ b 5 k _ h2).trans (hg8.block k h1 (fun e => h3 e.symm))
            have hown : (W8.setCell ⟨b, 5, none⟩ (.slice a8 1 c8)).ownsRow 0 89 2 (.slice a8 1 c8) 1 [.int .i64 (af : Int), .slice none 0 0] := ownsRow_of_block HO8.out (fun g hg => heap_set_ne _ b 5 g _ (fun e => by
              obtain ⟨c', hc'⟩ := own_type HO8.out hg
              exact ne_ty hc' y1 (by decide) e))
            have hd := HD.out.armed_nil (w' := W8.setCell ⟨b, 5, none⟩ (.slice a8 1 c8)) (v8 := .slice a8 1 c8) (af := af) (kp := []) (by rw [z1]; rfl) hown ⟨none, 0, rfl, .inl ⟨rfl, rfl⟩⟩ (fun k h1 h2 h3 => (q5 k (Nat.lt_of_lt_of_le h1 hw5.size) h2 h3).trans (hw5.block k h1))
            refine ⟨_, hd, fun k hk => ?_, ?_, Nat.le_refl _⟩
            · rcases hk with r | r | r | r | r | r | r
              · exact .inl (.inl r)
              · exact .inl (.inr (.inl r))
              · exact .inl (.inr (.inr (.inl r)))
              · exact .inl (.inr (.inr (.inr (.inl r))))
              · exact .inl (.inr (.inr (.inr (.inr (.inl r)))))
              · rcases HL8.out with e | e
                · rw [e] at r; exact .inl (.inr (.inr (.inr (.inr (.inr (.inl r))))))
                · rw [e] at r; cases r; exact .inr hw5.size
              · exact r.elim
            · exact ((Gr.of_below hw5 : Gr (Foot b L σ) w (W4.alloc (.cells #[.int .i64 (af : Int), .slice none 0 0] 89))).trans (Gr.of_grown (X := Foot b L σ) hg8 (fun k hk => .inl (.inr (.inr (.inr (.inr (.inr (.inl hk)))))))) (fun i h => .inl h)).trans (Gr.set W8 b 5 _ (X := Foot b L σ) (.inl rfl)) (fun i h => .inl h)
        · have HF := hide hF
          clear hF
          go_wp2_with (fail)
          go_ret
          exact ⟨rfl, HF.out⟩
end
end Go.Proofs.Ytgfgihpkbbjkfaa
