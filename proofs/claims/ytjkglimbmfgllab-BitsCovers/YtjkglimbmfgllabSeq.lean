/- A range over an iterator that itself ranges over another one: what such an iterator is asked for, and what a loop over it comes to. -/
import Derived.Test.YtjkglimbmfgllabGone
namespace Go.Proofs.Ytjkglimbmfgllab
open Go.RowKit Go.Shelf
set_option linter.unusedVariables false
attribute [local go_sem] Oper.semAt_some

/-- What a round keeps: whatever lay below n₀, and every box of a function value. -/
def K2 (n₀ : Nat) (W W' : World) : Prop := Below n₀ W W' ∧ ∀ (b : Nat) (c : Array Value) (fr : Nat × Nat), W.heap[b]? = some (.cells c 50 fr) → W'.heap[b]? = some (.cells c 50 fr)

theorem K2.refl (n₀ : Nat) (W : World) : K2 n₀ W W := ⟨Below.refl _ _, fun _ _ _ h => h⟩
theorem K2.trans {n₀ : Nat} {A B C : World} (h : K2 n₀ A B) (k : K2 n₀ B C) : K2 n₀ A C := ⟨h.1.trans k.1, fun b c fr hb => k.2 b c fr (h.2 b c fr hb)⟩
theorem K2.put {n₀ l : Nat} {W : World} {o : Obj} (o' : Obj) (hn : n₀ ≤ l) (h : W.heap[l]? = some o) (ho : o.isCells = false) : K2 n₀ W (W.putObj l o') := by
  refine ⟨(Below.refl n₀ W).grown (grownBy_putObj' W l o') (by have := (Array.getElem?_eq_some_iff.1 h).1; omega) (fun k e => by cases e; omega), fun b c fr hb => ?_⟩
  by_cases hbl : b = l
  · subst hbl
    rw [h] at hb
    cases hb
    cases ho
  · exact (World.putObj_heap_other hbl).trans hb
theorem keepsFrom_put {B l : Nat} (W : World) (o' : Obj) (hl : l < B) : KeepsFrom B W (W.putObj l o') :=
  ⟨(grownBy_putObj' W l o').size, fun k o hk h _ => (World.putObj_heap_other (by omega)).trans h⟩
theorem keepsFrom_trans {B : Nat} {A C D : World} (h : KeepsFrom B A C) (k : KeepsFrom B C D) : KeepsFrom B A D :=
  ⟨Nat.le_trans h.size k.size, fun i o hi h0 ho => k.same i o hi (h.same i o hi h0 ho) ho⟩
theorem keepsFrom_up {B B' : Nat} {A C : World} (h : KeepsFrom B A C) (hB : B ≤ B') : KeepsFrom B' A C := ⟨h.size, fun i o hi h0 ho => h.same i o (by omega) h0 ho⟩

/-- The iterator tells these numbers in their order, till a round says no more, for every invariant that abides whatever is turned beyond the memory that it found, cells apart; a round keeps what lay below n₀, boxes of function values, and what is no cells and was laid since. -/
def SeqX (n₀ : Nat) (gf : Nat) (lb : Array Value) (xs : List Int) (w : World) : Prop :=
  ∀ (l : Nat) (J Jx : List Int → World → Prop) (W : World), Below w.heap.size w W → OwnFrom W.heap.size J → OwnFrom W.heap.size Jx →
    (∀ pre x W1, J pre W1 → pre ++ [x] <+: xs → YieldAt Fence.wide 1 Try.prog l #[.int .i64 x] W1 fun e W' =>
      (e = .returned (.bool true) ∧ J (pre ++ [x]) W' ∧ K2 n₀ W1 W' ∧ KeepsFrom W.heap.size W1 W') ∨ (e = .returned (.bool false) ∧ Jx (pre ++ [x]) W' ∧ KeepsFrom W.heap.size W1 W')) →
    J [] W →
    CallsIn Fence.wide 2 Try.prog gf (#[.func (.yield l) #[] #[]] ++ lb) W fun e W' => (∃ v, e = .returned v) ∧ (J xs W' ∨ ∃ pre, pre <+: xs ∧ Jx pre W')

theorem yield_any {m : Nat} (m' l' : Nat) {l : Nat} {args : Array Value} {W : World} {R : Ending → World → Prop} (h : YieldAt Fence.wide m Try.prog l args W R) : YieldAt (Fence.wide.inRound l') m' Try.prog l args W R := by
  obtain ⟨fn, tmps, assign, body, hy, hf, hR⟩ := h
  exact ⟨fn, tmps, assign, body, hy, hf, fun c cs _ => hR c cs (fun d hd => by cases hd)⟩

/-- What lies in the two blocks that the loop lays for itself. -/
def Books (r : Loop) (s : Nat) (W : World) : Prop := W.heap[s + 1]? = some (.loop r) ∧ W.heap[s]? = some (.deferred (some []))

theorem Books.grown {r : Loop} {s B : Nat} {W W' : World} {row : Option Nat} (h : Books r s W) (hg : W.grownBy W' row) (hB : s + 2 ≤ B) (hr : ∀ k, row = some k → B ≤ k) : Books r s W' := by
  have h1 := (Array.getElem?_eq_some_iff.1 h.1).1
  have h2 := (Array.getElem?_eq_some_iff.1 h.2).1
  exact ⟨(hg.block _ h1 (fun e => by have := hr _ e.symm; omega)).trans h.1, (hg.block _ h2 (fun e => by have := hr _ e.symm; omega)).trans h.2⟩

theorem Books.put {r r' : Loop} {s : Nat} {W : World} (h : Books r s W) : Books r' s (W.putObj (s + 1) (.loop r')) :=
  ⟨World.putObj_heap_same (Array.getElem?_eq_some_iff.1 h.1).1, (World.putObj_heap_other (by omega)).trans h.2⟩

theorem Books.keeps {r : Loop} {s : Nat} {W W' : World} (h : Books r s W) (hk : KeepsFrom s W W') : Books r s W' :=
  ⟨hk.same _ _ (by omega) h.1 rfl, hk.same _ _ (Nat.le_refl _) h.2 rfl⟩

/-- The law of a loop over such an iterator. -/
theorem rangeX {g : Operand} {ps : Array Tmp} {assign body : Code} {Q : Exit → Act → World → Prop} {a : Act} {w : World} {gf : Nat} {lb : Array Value}
    (hg : a.eval g = .func (.func gf) #[] lb) (eg : ∀ args w, (callFunc gf args).run Try.prog w = .ok (.enter gf args) w) {n₀ : Nat} {xs : List Int} {w0 : World} (hseq : SeqX n₀ gf lb xs w0)
    (hb0 : Below w0.heap.size w0 w) (hn₀ : n₀ ≤ w.heap.size) (hps : ps.size = 1)
    (I : List Int → World → Prop) (Ix : Code → List Int → World → Prop) (hI : OwnFrom w.heap.size I) (hIx : ∀ c, OwnFrom w.heap.size (Ix c)) (h0 : I [] w) (a₁ : Int → Act)
    (hassign : ∀ (l : Nat) (x : Int) (W : World) (K : Act → World → Prop), K (a₁ x) W →
      assign.wpIn (Fence.wide.inRound l) 1 Try.prog (Exit.then K (fun _ _ _ => False)) { tmps := (ps.zip #[Value.int .i64 x]).foldl (fun t (p, v) => t.setIfInBounds p v) a.tmps, defers := [] } W)
    (hbody : ∀ (l : Nat) (pre : List Int) (x : Int) (W : World), I pre W → pre ++ [x] <+: xs → body.wpIn (Fence.wide.inRound l) 1 Try.prog (ownPostG w.heap.size (K2 n₀) I Ix (pre ++ [x]) W) (a₁ x) W)
    (hdone : ∀ (D : Nat) (W : World), w.heap.size ≤ D → I xs W → W.heap[D]? = some (.deferred (some [])) → Q .normal { a with defers := { target := .collected D, args := #[] } :: a.defers } W)
    (hstop : ∀ (D : Nat) (c : Code) (pre : List Int) (W : World), w.heap.size ≤ D → pre <+: xs → Ix c pre W → W.heap[D]? = some (.deferred (some [])) → c.wpIn Fence.wide 3 Try.prog Q { a with defers := { target := .collected D, args := #[] } :: a.defers } W) :
    (Code.rangeFunc g ps assign body).wpIn Fence.wide 3 Try.prog Q a w := by
  refine wpIn_rangeFunc fun fn hfn => ?_
  generalize hS : w.heap.size = S at *
  have hrec : ∃ rec : LoopState → Option Code → Loop, ∀ st pe, rec st pe = { state := st, pending := pe, fn := fn, tmps := a.tmps, params := ps, assign := assign, body := body, defers := S } := ⟨fun st pe => _, fun _ _ => rfl⟩
  obtain ⟨rec, hrec⟩ := hrec
  have hbooks : Books (rec .ready none) S ((w.alloc (.deferred (some []))).alloc (.loop (rec .ready none))) := by
    constructor
    · have h := World.alloc_heap_new (w.alloc (.deferred (some []))) (.loop (rec .ready none))
      rwa [World.size_alloc, hS] at h
    · rw [← hS]; exact (Below.heap_alloc _ _ _ (by simp)).trans (World.alloc_heap_new w _)
  have hsz : ((w.alloc (.deferred (some []))).alloc (.loop (rec .ready none))).heap.size = S + 2 := by simp [hS]
  have hI1 : I [] ((w.alloc (.deferred (some []))).alloc (.loop (rec .ready none))) := hI.alloc _ (hI.alloc _ h0)
  have hb1 : Below w0.heap.size w0 ((w.alloc (.deferred (some []))).alloc (.loop (rec .ready none))) :=
    hb0.trans ((((Below.refl _ w).alloc (Nat.le_refl _) _).alloc (by simp) _).mono hb0.size)
  have henter : (Instr.enterLoop fn a.tmps ps assign body Fence.wide.round).run Try.prog w = .ok (S + 1, [{ target := .collected S, args := #[] }]) ((w.alloc (.deferred (some []))).alloc (.loop (rec .ready none))) := by
    rw [hrec, ← hS]; exact run_enterLoop_outer _ _ _ _ _
  generalize (w.alloc (.deferred (some []))).alloc (.loop (rec .ready none)) = W1 at *
  refine ⟨S + 1, _, W1, { target := .fn (.func gf) lb, args := #[.func (.yield (S + 1)) #[] #[]] }, W1, gf, #[.func (.yield (S + 1)) #[] #[]] ++ lb, W1, henter, ?_, fun _ _ => trivial, ?_, fun _ => (by omega), ?_⟩
  · simp only [resolve, hg]; simp [go_sem]
  · simp [invoke, go_sem, eg]
  refine (hseq (S + 1) (fun pre W => I pre W ∧ Books (rec .ready none) S W) (fun pre W => ∃ c, Ix c pre W ∧ Books (rec .done (some c)) S W) W1 hb1 ?_ ?_ ?_ ⟨hI1, hbooks⟩).mono ?_
  · exact fun s A B row hs hgr hr => ⟨hI s A B row hs.1 hgr (fun k e => ⟨by have := (hr k e).1; omega, (hr k e).2⟩), hs.2.grown hgr (Nat.le_of_eq hsz.symm) (fun k e => (hr k e).1)⟩
  · rintro s A B row ⟨c, hc, hbk⟩ hgr hr
    exact ⟨c, hIx c s A B row hc hgr (fun k e => ⟨by have := (hr k e).1; omega, (hr k e).2⟩), hbk.grown hgr (Nat.le_of_eq hsz.symm) (fun k e => (hr k e).1)⟩
  · -- a round
    rintro pre x W ⟨hi, hbk⟩ hpx
    rw [hsz]
    have hy := run_yield (P := Try.prog) (args := #[Value.int .i64 x]) hbk.1 (by rw [hrec]; exact hps.symm)
    have hbeg := run_beginRound (P := Try.prog) hbk.1 (by rw [hrec])
    rw [hrec] at hy
    refine ⟨fn, _, assign, body, hy, roundIn_of_wpIn hfn (hassign _ x W _ ⟨_, hbeg, ?_⟩)⟩
    have hbusy : Books { rec .ready none with state := .busy } S (W.putObj (S + 1) (.loop { rec .ready none with state := .busy })) := hbk.put
    have hlow : K2 n₀ W (W.putObj (S + 1) (.loop { rec .ready none with state := .busy })) := K2.put _ (by omega) hbk.1 rfl
    have hkeep : KeepsFrom (S + 2) W (W.putObj (S + 1) (.loop { rec .ready none with state := .busy })) := keepsFrom_put _ _ (by omega)
    refine wpIn_mono (hbody _ pre x _ (hI.putObj _ hi (by omega) hbk.1 rfl) hpx) ?_
    have close : ∀ (jump : Option Code) (W3 : World), Books { rec .ready none with state := .busy } S W3 →
        (Instr.endRound (S + 1) jump).run Try.prog W3 = .ok (.bool jump.isNone) (W3.putObj (S + 1) (.loop (rec (if jump.isNone then .ready else .done) jump))) := fun jump W3 hb3 => by
      have h := run_endRound (P := Try.prog) jump hb3.1
      rw [hrec] at h ⊢
      exact h
    rintro e a3 W3 hp
    cases e with
    | normal =>
      obtain ⟨hk3, hkp3, hi3⟩ := hp
      have hb3 := hbusy.keeps hk3
      exact ⟨_, _, close none W3 hb3, .inl ⟨rfl, ⟨hI.putObj _ hi3 (by omega) hb3.1 rfl, hb3.put⟩, (hlow.trans hkp3).trans (K2.put _ (by omega) hb3.1 rfl), keepsFrom_trans (keepsFrom_trans hkeep (keepsFrom_up hk3 (by omega))) (keepsFrom_put _ _ (by omega))⟩⟩
    | ret =>
      obtain ⟨hk3, hi3⟩ := hp
      have hb3 := hbusy.keeps hk3
      exact ⟨_, _, close (some .ret) W3 hb3, .inr ⟨rfl, ⟨.ret, (hIx _).putObj _ hi3 (by omega) hb3.1 rfl, hb3.put⟩, keepsFrom_trans (keepsFrom_trans hkeep (keepsFrom_up hk3 (by omega))) (keepsFrom_put _ _ (by omega))⟩⟩
    | exit id =>
      obtain ⟨hk3, hi3⟩ := hp
      have hb3 := hbusy.keeps hk3
      exact ⟨_, _, close (some (.exit id)) W3 hb3, .inr ⟨rfl, ⟨.exit id, (hIx _).putObj _ hi3 (by omega) hb3.1 rfl, hb3.put⟩, keepsFrom_trans (keepsFrom_trans hkeep (keepsFrom_up hk3 (by omega))) (keepsFrom_put _ _ (by omega))⟩⟩
    | goto t =>
      obtain ⟨hk3, hi3⟩ := hp
      have hb3 := hbusy.keeps hk3
      exact ⟨_, _, close (some (.goto t)) W3 hb3, .inr ⟨rfl, ⟨.goto t, (hIx _).putObj _ hi3 (by omega) hb3.1 rfl, hb3.put⟩, keepsFrom_trans (keepsFrom_trans hkeep (keepsFrom_up hk3 (by omega))) (keepsFrom_put _ _ (by omega))⟩⟩
    | panic ch => exact hp.elim
    | outgrown => exact hp.elim
  · rintro e W2 ⟨⟨v, rfl⟩, hend⟩
    rcases hend with ⟨hi, hbk⟩ | ⟨pre, hpre, c, hi, hbk⟩
    · have h := run_endLoop (P := Try.prog) hbk.1 (by rw [hrec]; simp)
      rw [hrec] at h
      exact ⟨none, _, h, hdone S _ (Nat.le_refl _) (hI.putObj _ hi (by omega) hbk.1 rfl) ((World.putObj_heap_other (by omega)).trans hbk.2)⟩
    · have h := run_endLoop (P := Try.prog) hbk.1 (by rw [hrec]; simp)
      rw [hrec] at h
      exact ⟨some c, _, h, hstop S c pre _ (Nat.le_refl _) hpre ((hIx c).putObj _ hi (by omega) hbk.1 rfl) ((World.putObj_heap_other (by omega)).trans hbk.2)⟩
end Go.Proofs.Ytjkglimbmfgllab
