/- Package seek: a run of a pattern: search. -/
import Derived.Test.YtodooppapciegaaGreatDoorXRunF
namespace Go.Proofs.YtodooppapciegaaGreatDoor
open Go.RowKit Go.Shelf
set_option linter.unusedVariables false
set_option linter.unusedSimpArgs false

/-- What is done at a place: come to it, step, start, and the rows change places. -/
def roundF (g : Bool) (its : List Kd) (n : Nat) (t : Int) (p : Nat) (a c : Ch) (σ : Rs) : Rs :=
  let σ1 := arriveF n p a c σ
  let σ2 := if g then startF g its t σ1 else σ1
  let σ3 := stepsF g its a σ2.now σ2
  let σ4 := if g then σ3 else startF g its t σ3
  { σ4 with now := σ4.next, next := σ4.now }
/-- Is the search over? -/
def stopV (g : Bool) (t : Int) (p wd : Nat) (σ : Rs) : Bool := decide (wd = 0) || (decide (σ.now.length = 0) && (decide (t ≤ (p : Int)) || worseV g σ (p + 1)))
def loopF (g : Bool) (its : List Kd) (l : List UInt8) (t : Int) : Nat → Nat → Ch → Rs → Rs
  | 0, _, _, σ => σ
  | f + 1, p, a, σ =>
    if stopV g t p (cw1 (l.drop p)) (roundF g its l.length t p a (ch1 (l.drop p)) σ) then roundF g its l.length t p a (ch1 (l.drop p)) σ
    else loopF g its l t f (p + cw1 (l.drop p)) (ch1 (l.drop p)) (roundF g its l.length t p a (ch1 (l.drop p)) σ)
/-- How wide the last character ahead of a place is. -/
def wdB (l : List UInt8) (p : Nat) : Nat := if p = 0 then 0 else cw ((l.take p).drop (lastAt (l.take p)))
/-- The character ahead of a place. -/
def chB (l : List UInt8) (p : Nat) : Ch := ch1 ((l.take p).drop (p - wdB l p))
def searchF (g : Bool) (its : List Kd) (l : List UInt8) (f : Nat) (t : Int) (σ : Rs) : Rs :=
  loopF g its l t (l.length + 1 - f) f (chB l f) { σ with now := [], bf := 0, bt := 0, fo := false }
theorem wdB_le (l : List UInt8) (p : Nat) (hp : p ≤ l.length) : wdB l p ≤ p := by
  unfold wdB
  split
  · exact Nat.zero_le _
  · have hn : l.take p ≠ [] := fun e => by have := congrArg List.length e; rw [List.length_take, List.length_nil] at this; omega
    have h := (last_iff (l.take p) hn).2.1
    simp at h
    omega
theorem last_wd (s : ByteArray) (p : Nat) (hp : p ≤ s.size) : (lastV (bl (s.extract 0 p))).2.1 = (wdB (bl s) p : Int) := by
  rw [bl_extract, List.drop_zero, Nat.sub_zero]
  unfold lastV wdB
  by_cases h : p = 0
  · subst h; simp
  · have hn : (bl s).take p ≠ [] := fun e => by have := congrArg List.length e; rw [List.length_take, bl_len, List.length_nil] at this; omega
    rw [if_neg hn, if_neg h]
    have h2 : ((bl s).take p).drop (lastAt ((bl s).take p)) ≠ [] := fun e => by
      have h3 := (last_iff ((bl s).take p) hn).2.1
      have h4 := congrArg List.length e
      have h5 := cw_pos ([] : List UInt8)
      rw [e] at h3
      rw [List.length_drop] at h4
      simp at h4
      have h6 : 0 < ((bl s).take p).length := List.length_pos_iff.2 hn
      simp at h3 h6
      omega
    rw [firstV_ne h2]
theorem ch_slice (s : ByteArray) (p q : Nat) (h : q ≤ p) (hp : p ≤ s.size) : bl (s.extract (p - q) p) = ((bl s).take p).drop (p - q) := by
  rw [bl_extract, List.drop_take]
/-- What holds of a run between two rounds. -/
structure Rs.Ok0 (its : List Kd) (m : Nat) (σ : Rs) : Prop where
  thn : ∀ t ∈ σ.now, (∃ x, its[t.1]? = some x ∧ 2 ≤ x.1) ∧ t.2 ≤ m
  len : σ.seen.length = its.length + 1
  bf : σ.bf ≤ m
  bt : σ.bt ≤ m
theorem arriveF_ok0 {its : List Kd} {m n p : Nat} {a c : Ch} {σ : Rs} (h : σ.Ok0 its m) (hp : p ≤ m) : (arriveF n p a c σ).Ok its m :=
  ⟨h.thn, fun t ht => by simp [arriveF] at ht, h.len, Nat.zero_le _, hp, h.bf, h.bt⟩
def mid2 (g : Bool) (its : List Kd) (t : Int) (σ : Rs) : Rs := if g then startF g its t σ else σ
def mid4 (g : Bool) (its : List Kd) (t : Int) (σ : Rs) : Rs := if g then σ else startF g its t σ
def swapF (σ : Rs) : Rs := { σ with now := σ.next, next := σ.now }
theorem roundF_eq (g : Bool) (its : List Kd) (n : Nat) (t : Int) (p : Nat) (a c : Ch) (σ : Rs) : roundF g its n t p a c σ = swapF (mid4 g its t (stepsF g its a (mid2 g its t (arriveF n p a c σ)).now (mid2 g its t (arriveF n p a c σ)))) := rfl
theorem mid2_ok {g : Bool} {its : List Kd} {m : Nat} {t : Int} {σ : Rs} (h : σ.Ok its m) : (mid2 g its t σ).Ok its m := by
  unfold mid2
  split
  · exact startF_ok h
  · exact h
theorem mid4_ok {g : Bool} {its : List Kd} {m : Nat} {t : Int} {σ : Rs} (h : σ.Ok its m) : (mid4 g its t σ).Ok its m := by
  unfold mid4
  split
  · exact h
  · exact startF_ok h
theorem mid2_round {g : Bool} {its : List Kd} {t : Int} {σ : Rs} : (mid2 g its t σ).round = σ.round := by
  unfold mid2
  split
  · exact startF_keeps.2.1
  · rfl
theorem mid4_round {g : Bool} {its : List Kd} {t : Int} {σ : Rs} : (mid4 g its t σ).round = σ.round := by
  unfold mid4
  split
  · rfl
  · exact startF_keeps.2.1
theorem swapF_ok {its : List Kd} {m : Nat} {σ : Rs} (h : σ.Ok its m) : (swapF σ).Ok0 its m := ⟨h.thx, h.len, h.bf, h.bt⟩
theorem roundF_ok {g : Bool} {its : List Kd} {m n p : Nat} {t : Int} {a c : Ch} {σ : Rs} (h : σ.Ok0 its m) (hp : p ≤ m) : (roundF g its n t p a c σ).Ok0 its m := by
  rw [roundF_eq]
  have h2 := mid2_ok (g := g) (t := t) (arriveF_ok0 (n := n) (a := a) (c := c) h hp)
  exact swapF_ok (mid4_ok (stepsF_ok _ _ (fun u hu => (h2.thn u hu).2) h2))
theorem roundF_round {g : Bool} {its : List Kd} {n p : Nat} {t : Int} {a c : Ch} {σ : Rs} : (roundF g its n t p a c σ).round = σ.round + 1 := by
  rw [roundF_eq]
  exact mid4_round.trans ((stepsF_keeps _ _).2.1.trans mid2_round)
section
variable {B : Nat} {D : Nat → Prop} {s : ByteArray} {g : Bool} {its : List Kd} {w w' : World} {b : Nat} {σ : Rs} {iv nv xv : Value} {S : Nat}
/-- The two rows change places. -/
theorem RunC.swap (h : RunC B D s g its w b σ iv nv xv S) : RunC B D s g its ((w.setCell ⟨b, 3, none⟩ xv).setCell ⟨b, 4, none⟩ nv) b (swapF σ) iv xv nv S := by
  have k1 := heap_setCell_same w b 3 _ _ xv h.box
  have k2 := heap_setCell_same _ b 4 _ _ nv k1
  have g1 := grownX_set w b 3 xv
  have g2 := grownX_set (w.setCell ⟨b, 3, none⟩ xv) b 4 nv
  have hB : Below B w ((w.setCell ⟨b, 3, none⟩ xv).setCell ⟨b, 4, none⟩ nv) := ((Below.refl _ _).setCell (p := ⟨b, 3, none⟩) h.lb xv).setCell (p := ⟨b, 4, none⟩) h.lb nv
  refine ⟨k2, h.items.keep (.of_base hB (by simp [World.setCell]) h.ltD), (h.next.kept g1 (.inr h.xb)).kept g2 (.inr h.xb), (h.now.kept g1 (.inr h.nb)).kept g2 (.inr h.nb), fun k h1 h2 => h.apart k h2 h1, ?_, h.lb, h.lS, h.ltD⟩
  exact (heap_setCell_other _ ⟨b, 4, none⟩ S nv h.neS.symm).trans ((heap_setCell_other w ⟨b, 3, none⟩ S xv h.neS.symm).trans h.seen)
end
end Go.Proofs.YtodooppapciegaaGreatDoor
