/- Ranges over functions, one within the other: what an iterator is asked for, and what a loop over it comes to. The loop's side owns the blocks that lay ahead of the loop, and rows of some types; the iterator's side all that was laid since. -/
import Derived.RangeFuncNested
import Derived.RangeFuncBound
import Derived.RangeFuncCalls
import Derived.RangeFuncLeaves
import Derived.RangeFuncBox
import Derived.Shelf.Abstract
import Derived.Shelf.RegionOpen
import Derived.WalkKit
import Derived.OwnWalkIn
import Derived.TacticsInMore
import Derived.LoopNIn
import Derived.LoopIn
import Derived.Maps.AppendAt
import Derived.Test.YtodooppapciegaaGreatDoorUOrdM
namespace Go.Proofs.YtodooppapciegaaGreatDoor
open Go.RowKit Go.Shelf
set_option linter.unusedVariables false
attribute [local go_sem] Oper.semAt_some

/-- A block of cells of a type that the loop's side holds. -/
def Held (H : TypeId → Prop) (o : Obj) : Prop := ∃ c t fr, o = .cells c t fr ∧ H t

/-- What the iterator's side does: blocks below B, and those that are held, lie as they lay. -/
def Sub (H : TypeId → Prop) (B : Nat) (W W' : World) : Prop :=
  (W'.os = W.os ∧ W'.tape = W.tape ∧ W'.output = W.output ∧ W.heap.size ≤ W'.heap.size) ∧ ∀ k o, W.heap[k]? = some o → (k < B ∨ Held H o) → W'.heap[k]? = some o
/-- What the loop's side does in a round: blocks of N, and those from B on that are not held, lie as they lay. -/
def Kp (H : TypeId → Prop) (N : Nat → Prop) (B : Nat) (W W' : World) : Prop :=
  (W'.os = W.os ∧ W'.tape = W.tape ∧ W'.output = W.output ∧ W.heap.size ≤ W'.heap.size) ∧ ∀ k o, W.heap[k]? = some o → (N k ∨ (B ≤ k ∧ ¬ Held H o)) → W'.heap[k]? = some o
def Stab {β : Type} (H : TypeId → Prop) (B : Nat) (J : β → World → Prop) : Prop := ∀ s W W', J s W → Sub H B W W' → J s W'

theorem Sub.refl (H : TypeId → Prop) (B : Nat) (W : World) : Sub H B W W := ⟨⟨rfl, rfl, rfl, Nat.le_refl _⟩, fun _ _ h _ => h⟩
theorem Sub.trans {H : TypeId → Prop} {B : Nat} {A C D : World} (h : Sub H B A C) (k : Sub H B C D) : Sub H B A D :=
  ⟨⟨k.1.1.trans h.1.1, k.1.2.1.trans h.1.2.1, k.1.2.2.1.trans h.1.2.2.1, Nat.le_trans h.1.2.2.2 k.1.2.2.2⟩, fun i o hi ho => k.2 i o (h.2 i o hi ho) ho⟩
theorem Sub.down {H : TypeId → Prop} {B B' : Nat} {A C : World} (h : Sub H B A C) (hB : B' ≤ B) : Sub H B' A C :=
  ⟨h.1, fun i o hi ho => h.2 i o hi (ho.imp (fun h => by omega) id)⟩
theorem Kp.refl (H : TypeId → Prop) (N : Nat → Prop) (B : Nat) (W : World) : Kp H N B W W := ⟨⟨rfl, rfl, rfl, Nat.le_refl _⟩, fun _ _ h _ => h⟩
theorem Kp.trans {H : TypeId → Prop} {N : Nat → Prop} {B : Nat} {A C D : World} (h : Kp H N B A C) (k : Kp H N B C D) : Kp H N B A D :=
  ⟨⟨k.1.1.trans h.1.1, k.1.2.1.trans h.1.2.1, k.1.2.2.1.trans h.1.2.2.1, Nat.le_trans h.1.2.2.2 k.1.2.2.2⟩, fun i o hi ho => k.2 i o (h.2 i o hi ho) ho⟩
theorem Kp.up {H : TypeId → Prop} {N : Nat → Prop} {B B' : Nat} {A C : World} (h : Kp H N B A C) (hB : B ≤ B') : Kp H N B' A C :=
  ⟨h.1, fun i o hi ho => h.2 i o hi (ho.imp id fun h => ⟨by omega, h.2⟩)⟩
/-- What leaves all that there was as it was is both. -/
theorem Sub.of_below {H : TypeId → Prop} {B : Nat} {A C : World} (h : Below A.heap.size A C) : Sub H B A C :=
  ⟨⟨h.os, h.tape, h.output, h.size⟩, fun k o hk _ => (h.block k (Array.getElem?_eq_some_iff.1 hk).1).trans hk⟩
theorem Kp.of_below {H : TypeId → Prop} {N : Nat → Prop} {B : Nat} {A C : World} (h : Below A.heap.size A C) : Kp H N B A C :=
  ⟨⟨h.os, h.tape, h.output, h.size⟩, fun k o hk _ => (h.block k (Array.getElem?_eq_some_iff.1 hk).1).trans hk⟩
theorem Sub.alloc {H : TypeId → Prop} {B : Nat} (W : World) (o : Obj) : Sub H B W (W.alloc o) := Sub.of_below ((Below.refl _ W).alloc (Nat.le_refl _) _)
theorem Kp.alloc {H : TypeId → Prop} {N : Nat → Prop} {B : Nat} (W : World) (o : Obj) : Kp H N B W (W.alloc o) := Kp.of_below ((Below.refl _ W).alloc (Nat.le_refl _) _)
theorem Sub.put {H : TypeId → Prop} {B l : Nat} {W : World} {o o' : Obj} (h : W.heap[l]? = some o) (hB : B ≤ l) (ho : ¬ Held H o) : Sub H B W (W.putObj l o') := by
  have hg := grownBy_putObj' W l o'
  refine ⟨⟨hg.os, hg.tape, hg.output, hg.size⟩, fun k o2 hk hc => ?_⟩
  refine (hg.block k (Array.getElem?_eq_some_iff.1 hk).1 (fun e => ?_)).trans hk
  cases e
  rw [h] at hk
  cases hk
  rcases hc with h1 | h1
  · omega
  · exact ho h1
theorem Kp.put {H : TypeId → Prop} {N : Nat → Prop} {B l : Nat} {W : World} {o o' : Obj} (h : W.heap[l]? = some o) (hn : ¬ N l) (hB : l < B ∨ Held H o) : Kp H N B W (W.putObj l o') := by
  have hg := grownBy_putObj' W l o'
  refine ⟨⟨hg.os, hg.tape, hg.output, hg.size⟩, fun k o2 hk hc => ?_⟩
  refine (hg.block k (Array.getElem?_eq_some_iff.1 hk).1 (fun e => ?_)).trans hk
  cases e
  rw [h] at hk
  cases hk
  rcases hc with h1 | h1
  · exact hn h1
  · rcases hB with h2 | h2
    · omega
    · exact h1.2 h2
theorem Sub.grown {H : TypeId → Prop} {B : Nat} {W W' : World} {row : Option Nat} (hg : W.grownBy W' row) (hr : ∀ k, row = some k → B ≤ k ∧ ∃ o, W.heap[k]? = some o ∧ ¬ Held H o) : Sub H B W W' := by
  refine ⟨⟨hg.os, hg.tape, hg.output, hg.size⟩, fun k o2 hk hc => ?_⟩
  refine (hg.block k (Array.getElem?_eq_some_iff.1 hk).1 (fun e => ?_)).trans hk
  obtain ⟨h1, o, ho, h2⟩ := hr k e.symm
  rw [ho] at hk
  cases hk
  rcases hc with h3 | h3
  · omega
  · exact h2 h3
theorem Kp.grown {H : TypeId → Prop} {N : Nat → Prop} {B : Nat} {W W' : World} {row : Option Nat} (hg : W.grownBy W' row) (hr : ∀ k, row = some k → ¬ N k ∧ (k < B ∨ ∃ o, W.heap[k]? = some o ∧ Held H o)) : Kp H N B W W' := by
  refine ⟨⟨hg.os, hg.tape, hg.output, hg.size⟩, fun k o2 hk hc => ?_⟩
  refine (hg.block k (Array.getElem?_eq_some_iff.1 hk).1 (fun e => ?_)).trans hk
  obtain ⟨h1, h2⟩ := hr k e.symm
  rcases hc with h3 | h3
  · exact h1 h3
  · rcases h2 with h2 | ⟨o, ho, h2⟩
    · omega
    · rw [ho] at hk; cases hk; exact h3.2 h2
theorem Sub.set {H : TypeId → Prop} {B b : Nat} {W : World} {t : TypeId} {v : Value} (u : Value) (h : Boxed W b t v) (hB : B ≤ b) (ht : ¬ H t) : Sub H B W (W.setCell ⟨b, 0, none⟩ u) :=
  Sub.grown (grownBy_setCell' W b u) fun k e => by
    cases e
    exact ⟨hB, _, h, fun ⟨c, t', fr, e, hh⟩ => by cases e; exact ht hh⟩
theorem Kp.set {H : TypeId → Prop} {N : Nat → Prop} {B b : Nat} {W : World} (u : Value) (hn : ¬ N b) (hB : b < B) : Kp H N B W (W.setCell ⟨b, 0, none⟩ u) :=
  Kp.grown (grownBy_setCell' W b u) fun k e => by cases e; exact ⟨hn, .inl hB⟩
theorem not_held {H : TypeId → Prop} {o : Obj} (h : o.isCells = false) : ¬ Held H o := fun ⟨c, t, fr, e, _⟩ => by subst e; cases h

theorem Stab.alloc {β : Type} {H : TypeId → Prop} {B : Nat} {J : β → World → Prop} (h : Stab H B J) {s : β} {W : World} (o : Obj) (hJ : J s W) : J s (W.alloc o) := h s _ _ hJ (Sub.alloc W o)
theorem Stab.put {β : Type} {H : TypeId → Prop} {B l : Nat} {J : β → World → Prop} (h : Stab H B J) {s : β} {W : World} {o : Obj} (o' : Obj) (hJ : J s W) (hB : B ≤ l) (hl : W.heap[l]? = some o) (ho : o.isCells = false) : J s (W.putObj l o') :=
  h s _ _ hJ (Sub.put hl hB (not_held ho))
theorem Stab.up {β : Type} {H : TypeId → Prop} {B B' : Nat} {J : β → World → Prop} (h : Stab H B J) (hB : B ≤ B') : Stab H B' J := fun s W W' hJ hs => h s W W' hJ (hs.down hB)
theorem Stab.and {β : Type} {H : TypeId → Prop} {B : Nat} {J K : β → World → Prop} (h : Stab H B J) (k : Stab H B K) : Stab H B (fun s W => J s W ∧ K s W) := fun s W W' hJ hs => ⟨h s W W' hJ.1 hs, k s W W' hJ.2 hs⟩
theorem Stab.pure {β : Type} {H : TypeId → Prop} {B : Nat} (p : β → Prop) : Stab H B (fun s (_ : World) => p s) := fun s W W' hJ _ => hJ
theorem Stab.boxed {β : Type} {H : TypeId → Prop} {B b : Nat} (t : TypeId) (f : β → Value) (hb : b < B) : Stab H B (fun s W => Boxed W b t (f s)) := fun s W W' hJ hs => hs.2 b _ hJ (.inl hb)
theorem Stab.box {β : Type} {H : TypeId → Prop} {B b : Nat} (t : TypeId) (v : Value) (hb : b < B) : Stab H B (fun (_ : β) W => Boxed W b t v) := fun s W W' hJ hs => hs.2 b _ hJ (.inl hb)
theorem Stab.below {β : Type} {H : TypeId → Prop} {B n : Nat} {w : World} (hn : n ≤ B) (hnw : n ≤ w.heap.size) : Stab H B (fun (_ : β) W => Below n w W) := fun s W W' hJ hs =>
  hJ.trans ⟨hs.1.1, hs.1.2.1, hs.1.2.2.1, hs.1.2.2.2, fun k hk => by
    have hlt : k < W.heap.size := by have := hJ.size; omega
    rw [Array.getElem?_eq_getElem hlt]
    exact hs.2 k _ (Array.getElem?_eq_getElem hlt) (.inl (by omega))⟩
theorem Stab.row {β : Type} {H : TypeId → Prop} {B base : Nat} (e : TypeId) (size : Nat) (v : Value) (n : β → Nat) (xs : β → List Value) (he : H e) : Stab H B (fun s W => World.ownsRow W base e size v (n s) (xs s)) := fun s W W' hJ hs => by
  refine ⟨hJ.1, ?_⟩
  rcases hJ.2 with h | ⟨g, cap, cur, hv, hb, hg, r⟩
  · exact .inl h
  · exact .inr ⟨g, cap, cur, hv, hb, hs.2 g _ hg (.inr ⟨_, _, _, rfl, he⟩), r⟩
theorem Stab.cell {β : Type} {H : TypeId → Prop} {B b : Nat} (v : Value) (hb : b < B) : Stab H B (fun (_ : β) W => World.cell? W ⟨b, 0, none⟩ = some v) := fun s W W' hJ hs => by
  have hlt := World.block_lt_of_cell? W _ hJ
  have h1 : W'.heap[b]? = W.heap[b]? := by
    rw [Array.getElem?_eq_getElem (show b < W.heap.size from hlt)]
    exact hs.2 b _ (Array.getElem?_eq_getElem hlt) (.inl hb)
  exact (World.cell?_of_block h1).trans hJ
theorem Kp.cell {H : TypeId → Prop} {N : Nat → Prop} {B b : Nat} {W W' : World} {v : Value} (h : Kp H N B W W') (hb : N b) (hc : W.cell? ⟨b, 0, none⟩ = some v) : W'.cell? ⟨b, 0, none⟩ = some v := by
  have hlt := World.block_lt_of_cell? W _ hc
  have h1 : W'.heap[b]? = W.heap[b]? := by
    rw [Array.getElem?_eq_getElem (show b < W.heap.size from hlt)]
    exact h.2 b _ (Array.getElem?_eq_getElem hlt) (.inl hb)
  exact (World.cell?_of_block h1).trans hc
theorem Kp.boxed {H : TypeId → Prop} {N : Nat → Prop} {B b : Nat} {W W' : World} {t : TypeId} {v : Value} (h : Kp H N B W W') (hb : B ≤ b) (ht : ¬ H t) (hc : Boxed W b t v) : Boxed W' b t v :=
  h.2 b _ hc (.inr ⟨hb, fun ⟨c, t', fr, e, hh⟩ => by cases e; exact ht hh⟩)
theorem Stab.ex {β γ : Type} {H : TypeId → Prop} {B : Nat} {J : γ → β → World → Prop} (h : ∀ c, Stab H B (J c)) : Stab H B (fun s W => ∃ c, J c s W) := fun s W W' ⟨c, hc⟩ hs => ⟨c, h c s W W' hc hs⟩
theorem Stab.comp {β γ : Type} {H : TypeId → Prop} {B : Nat} {J : β → World → Prop} (h : Stab H B J) (f : γ → β) : Stab H B (fun s W => J (f s) W) := fun s W W' hJ hs => h (f s) W W' hJ hs

/-- How a round may be left. -/
def postX {α : Type} (H : TypeId → Prop) (N : Nat → Prop) (B : Nat) (I : List α → World → Prop) (Ix : Code → List α → World → Prop) (xs : List α) (W : World) : Exit → Act → World → Prop
  | .normal, _, W' => Kp H N B W W' ∧ I xs W'
  | .ret, _, W' => Kp H N B W W' ∧ Ix .ret xs W'
  | .exit id, _, W' => Kp H N B W W' ∧ Ix (.exit id) xs W'
  | .goto t, _, W' => Kp H N B W W' ∧ Ix (.goto t) xs W'
  | .panic _, _, _ => False
  | .outgrown, _, _ => False

/-- The iterator tells these in their order, till a round says no more. -/
def SeqX {α : Type} (H : TypeId → Prop) (N : Nat → Prop) (gf : Nat) (lb : Array Value) (encs : α → Array Value) (xs : List α) (w : World) : Prop :=
  ∀ (l : Nat) (J Jx : List α → World → Prop) (W : World), Below w.heap.size w W → Stab H W.heap.size J → Stab H W.heap.size Jx →
    (∀ pre x W1, J pre W1 → pre ++ [x] <+: xs → YieldAt Fence.wide 1 Tryz.prog l (encs x) W1 fun e W' =>
      (e = .returned (.bool true) ∧ J (pre ++ [x]) W' ∧ Kp H N W.heap.size W1 W') ∨ (e = .returned (.bool false) ∧ Jx (pre ++ [x]) W' ∧ Kp H N W.heap.size W1 W')) →
    J [] W →
    CallsIn Fence.wide 2 Tryz.prog gf (#[.func (.yield l) #[] #[]] ++ lb) W fun e W' => (∃ v, e = .returned v) ∧ (J xs W' ∨ ∃ pre, pre <+: xs ∧ Jx pre W')

theorem yield_any {m : Nat} (m' l' : Nat) {l : Nat} {args : Array Value} {W : World} {R : Ending → World → Prop} (h : YieldAt Fence.wide m Tryz.prog l args W R) : YieldAt (Fence.wide.inRound l') m' Tryz.prog l args W R := by
  obtain ⟨fn, tmps, assign, body, hy, hf, hR⟩ := h
  exact ⟨fn, tmps, assign, body, hy, hf, fun c cs _ => hR c cs (fun d hd => by cases hd)⟩
theorem yield_out {m : Nat} (m' : Nat) {l : Nat} {args : Array Value} {W : World} {R : Ending → World → Prop} (h : YieldAt Fence.wide m Tryz.prog l args W R) : YieldAt Fence.wide m' Tryz.prog l args W R := by
  obtain ⟨fn, tmps, assign, body, hy, hf, hR⟩ := h
  exact ⟨fn, tmps, assign, body, hy, hf, fun c cs _ => hR c cs (fun d hd => by cases hd)⟩

theorem inR {l' m f : Nat} {args : Array Value} {w : World} {R : Ending → World → Prop} (h : Calls Tryz.prog f args w R) : CallsIn (Fence.wide.inRound l') m Tryz.prog f args w R := (callsIn_wide (n := m)).2 h
theorem inW {m f : Nat} {args : Array Value} {w : World} {R : Ending → World → Prop} (h : Calls Tryz.prog f args w R) : CallsIn Fence.wide m Tryz.prog f args w R := (callsIn_wide (n := m)).2 h

/-- What lies in the two blocks that the loop lays for itself. -/
def Books (r : Loop) (s : Nat) (W : World) : Prop := W.heap[s + 1]? = some (.loop r) ∧ W.heap[s]? = some (.deferred (some []))
theorem Books.put {r r' : Loop} {s : Nat} {W : World} (h : Books r s W) : Books r' s (W.putObj (s + 1) (.loop r')) :=
  ⟨World.putObj_heap_same (Array.getElem?_eq_some_iff.1 h.1).1, (World.putObj_heap_other (by omega)).trans h.2⟩
theorem Books.keeps {H : TypeId → Prop} {N : Nat → Prop} {r : Loop} {s : Nat} {W W' : World} (h : Books r s W) (hk : Kp H N s W W') : Books r s W' :=
  ⟨hk.2 _ _ h.1 (.inr ⟨by omega, not_held rfl⟩), hk.2 _ _ h.2 (.inr ⟨Nat.le_refl _, not_held rfl⟩)⟩

/-- The law of a loop over such an iterator, whose rounds may lay memory ahead of their bodies. -/
theorem rangeY {α : Type} {g : Operand} {ps : Array Tmp} {assign body : Code} {Q : Exit → Act → World → Prop} {a : Act} {w : World} {gf : Nat} {lb : Array Value} {encs : α → Array Value}
    (hg : a.eval g = .func (.func gf) #[] lb) (eg : ∀ args w, (callFunc gf args).run Tryz.prog w = .ok (.enter gf args) w) {H : TypeId → Prop} {N : Nat → Prop} {xs : List α} {w0 : World} (hseq : SeqX H N gf lb encs xs w0)
    (hb0 : Below w0.heap.size w0 w) (hN : ∀ k, N k → k < w.heap.size) (hps : ∀ x, (encs x).size = ps.size)
    (I : List α → World → Prop) (Ix : Code → List α → World → Prop) (hI : Stab H w.heap.size I) (hIx : ∀ c, Stab H w.heap.size (Ix c)) (h0 : I [] w) (Ax : α → Act → World → Prop) (hAx : ∀ x a' W k o o', Ax x a' W → W.heap[k]? = some o → o.isCells = false → Ax x a' (W.putObj k o'))
    (hassign : ∀ (l : Nat) (pre : List α) (x : α) (W : World) (K : Act → World → Prop), I pre W → pre ++ [x] <+: xs → (∀ a' W', Kp H N w.heap.size W W' → I pre W' → Ax x a' W' → K a' W') →
      assign.wpIn (Fence.wide.inRound l) 1 Tryz.prog (Exit.then K (fun _ _ _ => False)) { tmps := (ps.zip (encs x)).foldl (fun t (p, v) => t.setIfInBounds p v) a.tmps, defers := [] } W)
    (hbody : ∀ (l : Nat) (pre : List α) (x : α) (a' : Act) (W : World), I pre W → Ax x a' W → pre ++ [x] <+: xs → body.wpIn (Fence.wide.inRound l) 1 Tryz.prog (postX H N w.heap.size I Ix (pre ++ [x]) W) a' W)
    (hdone : ∀ (D : Nat) (W : World), w.heap.size ≤ D → I xs W → W.heap[D]? = some (.deferred (some [])) → Q .normal { a with defers := { target := .collected D, args := #[] } :: a.defers } W)
    (hstop : ∀ (D : Nat) (c : Code) (pre : List α) (W : World), w.heap.size ≤ D → pre <+: xs → Ix c pre W → W.heap[D]? = some (.deferred (some [])) → c.wpIn Fence.wide 3 Tryz.prog Q { a with defers := { target := .collected D, args := #[] } :: a.defers } W) :
    (Code.rangeFunc g ps assign body).wpIn Fence.wide 3 Tryz.prog Q a w := by
  refine wpIn_rangeFunc fun fn hfn => ?_
  generalize hS : w.heap.size = S at *
  have hrec : ∃ rec : LoopState → Option Code → Loop, ∀ st pe, rec st pe = { state := st, pending := pe, fn := fn, tmps := a.tmps, params := ps, assign := assign, body := body, defers := S } := ⟨fun st pe => _, fun _ _ => rfl⟩
  obtain ⟨rec, hrec⟩ := hrec
  have hbooks : Books (rec .ready none) S ((w.alloc (.deferred (some []))).alloc (.loop (rec .ready none))) := by
    constructor
    · have h := World.alloc_heap_new (w.alloc (.deferred (some []))) (.loop (rec .ready none))
      rwa [World.size_alloc, hS] at h
    · rw [← hS]; exact (Below.heap_alloc _ _ _ (by simp)).trans (World.alloc_heap_new w _)
  have hsz : ((w.alloc (.deferred (some []))).alloc (.loop (rec .ready none))).heap.size = S + 2 := by simp [hS]
  have hI1 : I [] ((w.alloc (.deferred (some []))).alloc (.loop (rec .ready none))) := hI.alloc _ (hI.alloc _ h0)
  have hb1 : Below w0.heap.size w0 ((w.alloc (.deferred (some []))).alloc (.loop (rec .ready none))) :=
    hb0.trans ((((Below.refl _ w).alloc (Nat.le_refl _) _).alloc (by simp) _).mono hb0.size)
  have henter : (Instr.enterLoop fn a.tmps ps assign body Fence.wide.round).run Tryz.prog w = .ok (S + 1, [{ target := .collected S, args := #[] }]) ((w.alloc (.deferred (some []))).alloc (.loop (rec .ready none))) := by
    rw [hrec, ← hS]; exact run_enterLoop_outer _ _ _ _ _
  generalize (w.alloc (.deferred (some []))).alloc (.loop (rec .ready none)) = W1 at *
  refine ⟨S + 1, _, W1, { target := .fn (.func gf) lb, args := #[.func (.yield (S + 1)) #[] #[]] }, W1, gf, #[.func (.yield (S + 1)) #[] #[]] ++ lb, W1, henter, ?_, fun _ _ => trivial, ?_, fun _ => (by omega), ?_⟩
  · simp only [resolve, hg]; simp [go_sem]
  · simp [invoke, go_sem, eg]
  have hbk2 : ∀ r A B, Sub H (S + 2) A B → Books r S A → Books r S B := fun r A B hs hb => ⟨hs.2 _ _ hb.1 (.inl (by omega)), hs.2 _ _ hb.2 (.inl (by omega))⟩
  refine (hseq (S + 1) (fun pre W => I pre W ∧ Books (rec .ready none) S W) (fun pre W => ∃ c, Ix c pre W ∧ Books (rec .done (some c)) S W) W1 hb1 ?_ ?_ ?_ ⟨hI1, hbooks⟩).mono ?_
  · rw [hsz]
    exact fun s A B hs hgr => ⟨hI s A B hs.1 (hgr.down (by omega)), hbk2 _ _ _ hgr hs.2⟩
  · rw [hsz]
    rintro s A B ⟨c, hc, hbk⟩ hgr
    exact ⟨c, hIx c s A B hc (hgr.down (by omega)), hbk2 _ _ _ hgr hbk⟩
  · -- a round
    rintro pre x W ⟨hi, hbk⟩ hpx
    rw [hsz]
    have hy := run_yield (P := Tryz.prog) (args := encs x) hbk.1 (by rw [hrec]; exact hps x)
    rw [hrec] at hy
    refine ⟨fn, _, assign, body, hy, roundIn_of_wpIn hfn (hassign _ pre x W _ hi hpx ?_)⟩
    intro a' Wa hka hia hax
    have hbk0 := hbk
    replace hbk := hbk.keeps hka
    have hbeg := run_beginRound (P := Tryz.prog) hbk.1 (by rw [hrec])
    refine ⟨_, hbeg, ?_⟩
    have hbusy : Books { rec .ready none with state := .busy } S (Wa.putObj (S + 1) (.loop { rec .ready none with state := .busy })) := hbk.put
    have hkeep : Kp H N (S + 2) W (Wa.putObj (S + 1) (.loop { rec .ready none with state := .busy })) := (hka.up (by omega)).trans (Kp.put hbk.1 (fun h => by have := hN _ h; omega) (.inl (by omega)))
    refine wpIn_mono (hbody _ pre x a' _ (hI.put _ hia (by omega) hbk.1 rfl) (hAx _ _ _ _ _ _ hax hbk.1 rfl) hpx) ?_
    have close : ∀ (jump : Option Code) (W3 : World), Books { rec .ready none with state := .busy } S W3 →
        (Instr.endRound (S + 1) jump).run Tryz.prog W3 = .ok (.bool jump.isNone) (W3.putObj (S + 1) (.loop (rec (if jump.isNone then .ready else .done) jump))) := fun jump W3 hb3 => by
      have h := run_endRound (P := Tryz.prog) jump hb3.1
      rw [hrec] at h ⊢
      exact h
    rintro e a3 W3 hp
    cases e with
    | normal =>
      obtain ⟨hk3, hi3⟩ := hp
      have hb3 := hbusy.keeps hk3
      exact ⟨_, _, close none W3 hb3, .inl ⟨rfl, ⟨hI.put _ hi3 (by omega) hb3.1 rfl, hb3.put⟩, (hkeep.trans (hk3.up (by omega))).trans (Kp.put hb3.1 (fun h => by have := hN _ h; omega) (.inl (by omega)))⟩⟩
    | ret =>
      obtain ⟨hk3, hi3⟩ := hp
      have hb3 := hbusy.keeps hk3
      exact ⟨_, _, close (some .ret) W3 hb3, .inr ⟨rfl, ⟨.ret, (hIx _).put _ hi3 (by omega) hb3.1 rfl, hb3.put⟩, (hkeep.trans (hk3.up (by omega))).trans (Kp.put hb3.1 (fun h => by have := hN _ h; omega) (.inl (by omega)))⟩⟩
    | exit id =>
      obtain ⟨hk3, hi3⟩ := hp
      have hb3 := hbusy.keeps hk3
      exact ⟨_, _, close (some (.exit id)) W3 hb3, .inr ⟨rfl, ⟨.exit id, (hIx _).put _ hi3 (by omega) hb3.1 rfl, hb3.put⟩, (hkeep.trans (hk3.up (by omega))).trans (Kp.put hb3.1 (fun h => by have := hN _ h; omega) (.inl (by omega)))⟩⟩
    | goto t =>
      obtain ⟨hk3, hi3⟩ := hp
      have hb3 := hbusy.keeps hk3
      exact ⟨_, _, close (some (.goto t)) W3 hb3, .inr ⟨rfl, ⟨.goto t, (hIx _).put _ hi3 (by omega) hb3.1 rfl, hb3.put⟩, (hkeep.trans (hk3.up (by omega))).trans (Kp.put hb3.1 (fun h => by have := hN _ h; omega) (.inl (by omega)))⟩⟩
    | panic ch => exact hp.elim
    | outgrown => exact hp.elim
  · rintro e W2 ⟨⟨v, rfl⟩, hend⟩
    rcases hend with ⟨hi, hbk⟩ | ⟨pre, hpre, c, hi, hbk⟩
    · have h := run_endLoop (P := Tryz.prog) hbk.1 (by rw [hrec]; simp)
      rw [hrec] at h
      exact ⟨none, _, h, hdone S _ (Nat.le_refl _) (hI.put _ hi (by omega) hbk.1 rfl) ((World.putObj_heap_other (by omega)).trans hbk.2)⟩
    · have h := run_endLoop (P := Tryz.prog) hbk.1 (by rw [hrec]; simp)
      rw [hrec] at h
      exact ⟨some c, _, h, hstop S c pre _ (Nat.le_refl _) hpre ((hIx c).put _ hi (by omega) hbk.1 rfl) ((World.putObj_heap_other (by omega)).trans hbk.2)⟩
/-- The law of a loop over such an iterator. -/
theorem rangeX {α : Type} {g : Operand} {ps : Array Tmp} {assign body : Code} {Q : Exit → Act → World → Prop} {a : Act} {w : World} {gf : Nat} {lb : Array Value} {encs : α → Array Value}
    (hg : a.eval g = .func (.func gf) #[] lb) (eg : ∀ args w, (callFunc gf args).run Tryz.prog w = .ok (.enter gf args) w) {H : TypeId → Prop} {N : Nat → Prop} {xs : List α} {w0 : World} (hseq : SeqX H N gf lb encs xs w0)
    (hb0 : Below w0.heap.size w0 w) (hN : ∀ k, N k → k < w.heap.size) (hps : ∀ x, (encs x).size = ps.size)
    (I : List α → World → Prop) (Ix : Code → List α → World → Prop) (hI : Stab H w.heap.size I) (hIx : ∀ c, Stab H w.heap.size (Ix c)) (h0 : I [] w) {a₁ : α → Act}
    (hassign : ∀ (l : Nat) (x : α) (W : World) (K : Act → World → Prop), K (a₁ x) W →
      assign.wpIn (Fence.wide.inRound l) 1 Tryz.prog (Exit.then K (fun _ _ _ => False)) { tmps := (ps.zip (encs x)).foldl (fun t (p, v) => t.setIfInBounds p v) a.tmps, defers := [] } W)
    (hbody : ∀ (l : Nat) (pre : List α) (x : α) (W : World), I pre W → pre ++ [x] <+: xs → body.wpIn (Fence.wide.inRound l) 1 Tryz.prog (postX H N w.heap.size I Ix (pre ++ [x]) W) (a₁ x) W)
    (hdone : ∀ (D : Nat) (W : World), w.heap.size ≤ D → I xs W → W.heap[D]? = some (.deferred (some [])) → Q .normal { a with defers := { target := .collected D, args := #[] } :: a.defers } W)
    (hstop : ∀ (D : Nat) (c : Code) (pre : List α) (W : World), w.heap.size ≤ D → pre <+: xs → Ix c pre W → W.heap[D]? = some (.deferred (some [])) → c.wpIn Fence.wide 3 Tryz.prog Q { a with defers := { target := .collected D, args := #[] } :: a.defers } W) :
    (Code.rangeFunc g ps assign body).wpIn Fence.wide 3 Tryz.prog Q a w :=
  rangeY hg eg hseq hb0 hN hps I Ix hI hIx h0 (fun x a' _ => a' = a₁ x) (fun _ _ _ _ _ _ h _ _ => h) (fun l pre x W K hi _ hK => hassign l x W K (hK _ _ (Kp.refl _ _ _ _) hi rfl)) (fun l pre x a' W hi e hp => by subst e; exact hbody l pre x W hi hp) hdone hstop

/-- The law of a loop over such an iterator, whose rounds lay a variable for what they are told. -/
theorem rangeP {α : Type} {g : Operand} {ps : Array Tmp} {assign body : Code} {Q : Exit → Act → World → Prop} {a : Act} {w : World} {gf : Nat} {lb : Array Value} {encs : α → Array Value}
    (hg : a.eval g = .func (.func gf) #[] lb) (eg : ∀ args w, (callFunc gf args).run Tryz.prog w = .ok (.enter gf args) w) {H : TypeId → Prop} {N : Nat → Prop} {xs : List α} {w0 : World} (hseq : SeqX H N gf lb encs xs w0)
    (hb0 : Below w0.heap.size w0 w) (hN : ∀ k, N k → k < w.heap.size) (hps : ∀ x, (encs x).size = ps.size)
    (I : List α → World → Prop) (Ix : Code → List α → World → Prop) (hI : Stab H w.heap.size I) (hIx : ∀ c, Stab H w.heap.size (Ix c)) (h0 : I [] w) (cells : α → Array Value) (ty : TypeId) {a₂ : α → World → Act}
    (hassign : ∀ (l : Nat) (x : α) (W : World) (K : Act → World → Prop), (∀ W', Below W.heap.size W W' → W'.heap[W.heap.size]? = some (.cells (cells x) ty (0, 0)) → K (a₂ x W) W') →
      assign.wpIn (Fence.wide.inRound l) 1 Tryz.prog (Exit.then K (fun _ _ _ => False)) { tmps := (ps.zip (encs x)).foldl (fun t (p, v) => t.setIfInBounds p v) a.tmps, defers := [] } W)
    (hbody : ∀ (l : Nat) (pre : List α) (x : α) (Wb W : World), I pre W → w.heap.size ≤ Wb.heap.size → W.heap[Wb.heap.size]? = some (.cells (cells x) ty (0, 0)) → pre ++ [x] <+: xs → body.wpIn (Fence.wide.inRound l) 1 Tryz.prog (postX H N w.heap.size I Ix (pre ++ [x]) W) (a₂ x Wb) W)
    (hdone : ∀ (D : Nat) (W : World), w.heap.size ≤ D → I xs W → W.heap[D]? = some (.deferred (some [])) → Q .normal { a with defers := { target := .collected D, args := #[] } :: a.defers } W)
    (hstop : ∀ (D : Nat) (c : Code) (pre : List α) (W : World), w.heap.size ≤ D → pre <+: xs → Ix c pre W → W.heap[D]? = some (.deferred (some [])) → c.wpIn Fence.wide 3 Tryz.prog Q { a with defers := { target := .collected D, args := #[] } :: a.defers } W) (hsize : ∀ s W, I s W → w.heap.size ≤ W.heap.size) :
    (Code.rangeFunc g ps assign body).wpIn Fence.wide 3 Tryz.prog Q a w :=
  rangeY hg eg hseq hb0 hN hps I Ix hI hIx h0 (fun x a' W' => ∃ Wb : World, a' = a₂ x Wb ∧ w.heap.size ≤ Wb.heap.size ∧ W'.heap[Wb.heap.size]? = some (.cells (cells x) ty (0, 0)))
    (fun x a' W k o o' h hk ho => by
      obtain ⟨Wb, e, h1, h2⟩ := h
      refine ⟨Wb, e, h1, ?_⟩
      refine (World.putObj_heap_other (fun e => ?_)).trans h2
      rw [← e, h2] at hk
      cases hk
      cases ho)
    (fun l pre x W K hi _ hK => hassign l x W K (fun W' hB hc => hK _ _ (Kp.of_below hB) (hI _ _ _ hi (Sub.of_below hB)) ⟨W, rfl, hsize _ _ hi, hc⟩))
    (fun l pre x a' W hi e hp => by obtain ⟨Wb, rfl, h1, h2⟩ := e; exact hbody l pre x Wb W hi h1 h2 hp) hdone hstop
end Go.Proofs.YtodooppapciegaaGreatDoor
