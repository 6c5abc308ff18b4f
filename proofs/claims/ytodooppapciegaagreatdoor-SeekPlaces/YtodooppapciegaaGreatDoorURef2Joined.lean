/- What the document's number and First answer. -/
import Derived.Test.YtodooppapciegaaGreatDoorLAll
import Derived.Test.YtodooppapciegaaGreatDoorLEnd
import Derived.WalkMore
import Derived.Test.YtodooppapciegaaGreatDoorXPcs
import Derived.Test.YtodooppapciegaaGreatDoorXLeadM
import Derived.Test.YtodooppapciegaaGreatDoorXMatch
import Derived.Test.YtodooppapciegaaGreatDoorUChars
import Derived.Test.YtodooppapciegaaGreatDoorSBld
import Derived.Test.YtodooppapciegaaGreatDoorUFirst
import Derived.Lib.ConvBytes
import Derived.OwnWalk
import Derived.Maps.AppendAt
import Derived.Test.YtodooppapciegaaGreatDoorXRdM
import Derived.Lib.RuneBytes
import Derived.Test.YtodooppapciegaaGreatDoorUPlaces
import Derived.WalkLawsBesides
import Derived.Deep.QuietTactic
import Derived.BigQuiet
import Derived.Laws.ShiftsVar
namespace Go.Proofs.YtodooppapciegaaGreatDoor
open Go.RowKit Go.Shelf
set_option linter.unusedVariables false
attribute [local go_sem] Oper.semAt_some

theorem inv_pl (l : List UInt8) : ∀ k, k ≤ (Cs 0 l).length → Inv l (pl l k) k ∧ (k < (Cs 0 l).length → pl l k < l.length) := by
  intro k
  induction k with
  | zero =>
    intro _
    have h : pl l 0 = 0 := by
      by_cases hl : l = []
      · subst hl; rfl
      · unfold pl; rw [Cs_cons 0 l hl]; rfl
    rw [h]
    refine ⟨Inv.start l, fun h0 => ?_⟩
    have := Cs_len_le l
    omega
  | succ k ih =>
    intro hk
    obtain ⟨h1, h2⟩ := ih (by omega)
    have h3 := h2 (by omega)
    have h4 := h1.step h3
    by_cases hlt : pl l k + cw (l.drop (pl l k)) < l.length
    · rw [pl_here h4 hlt]; exact ⟨h4, fun _ => hlt⟩
    · have h5 := h4.fin (by omega)
      have h6 := cw_len _ (drop_ne h3)
      rw [List.length_drop] at h6
      rw [h5, pl_fin]
      refine ⟨?_, fun h => by omega⟩
      have : pl l k + cw (l.drop (pl l k)) = l.length := by omega
      rw [this, h5] at h4
      exact h4
/-- What a character that is told is, and what the lines so far are behind it. -/
theorem char_told {l : List UInt8} {pre : List (Nat × Nat × Nat)} {x : Nat × Nat × Nat} (h : pre ++ [x] <+: Cs 0 l) : ∃ p, p = pl l pre.length ∧ x = (p, rune (l.drop p), cw (l.drop p)) ∧ p < l.length ∧ St l p ∧
    sofar l (pl l (pre ++ [x]).length) = (if endW l p = 0 then sofar l p else stp l (sofar l p) p) := by
  have hl := h.length_le
  simp only [List.length_append, List.length_singleton] at hl
  have hx : (Cs 0 l)[pre.length]? = some x := by
    have h2 := List.prefix_iff_eq_take.1 h
    have h3 : (pre ++ [x])[pre.length]? = some x := by simp
    rw [h2, List.getElem?_take] at h3
    simp only [List.length_append, List.length_singleton] at h3
    rwa [if_pos (by omega)] at h3
  obtain ⟨h1, h2⟩ := inv_pl l pre.length (by omega)
  have h3 := h2 (by omega)
  have h4 := h1.here h3
  rw [h4] at hx
  have hst : St l (pl l pre.length) := ⟨_, List.mem_of_getElem? h4, rfl⟩
  refine ⟨_, rfl, (Option.some.inj hx).symm, h3, hst, ?_⟩
  rw [List.length_append, List.length_singleton]
  have h5 := h1.step h3
  have h6 : pl l (pre.length + 1) = pl l pre.length + cw (l.drop (pl l pre.length)) := by
    by_cases hlt : pl l pre.length + cw (l.drop (pl l pre.length)) < l.length
    · exact pl_here h5 hlt
    · have h7 := h5.fin (by omega)
      have h8 := cw_len _ (drop_ne h3)
      rw [List.length_drop] at h8
      rw [h7, pl_fin]; omega
  rw [h6, sofar_char hst]

theorem below_boxed {W W' : World} {b : Nat} {t : TypeId} {v : Value} (h : Below W.heap.size W W') (hb : Boxed W b t v) : Boxed W' b t v :=
  (h.block b (Array.getElem?_eq_some_iff.1 (show W.heap[b]? = _ from hb)).1).trans hb
/-- What is told of a line: its piece, and how wide its end is. -/
def encL (x : Nat × Nat × Nat) : Array Value := #[.agg #[.int .i64 (x.1 : Int), .int .i64 (x.2.1 : Int)], .int .i64 (x.2.2 : Int)]

end Go.Proofs.YtodooppapciegaaGreatDoor
namespace Go.Proofs.YtodooppapciegaaGreatDoor
open Go.RowKit Go.Shelf
set_option linter.unusedVariables false
attribute [local go_sem] Oper.semAt_some

theorem take_of_pre {α : Type} {pre xs : List α} {x : α} (h : pre ++ [x] <+: xs) : pre.length < xs.length ∧ xs[pre.length]? = some x := by
  have hl := h.length_le
  simp only [List.length_append, List.length_singleton] at hl
  refine ⟨by omega, ?_⟩
  have h2 := List.prefix_iff_eq_take.1 h
  have h3 : (pre ++ [x])[pre.length]? = some x := by simp
  rw [h2, List.getElem?_take] at h3
  simp only [List.length_append, List.length_singleton] at h3
  rwa [if_pos (by omega)] at h3

theorem celOf {w : World} {B : Nat} {cs : Array Value} {t : TypeId} (h : w.heap[B]? = some (.cells cs t (0, 0))) (i : Nat) (v : Value) (hv : cs[i]? = some v) : w.cell? ⟨B, i, none⟩ = some v := by
  simp only [World.cell?, h]
  exact hv
theorem frzOf {w : World} {B : Nat} {cs : Array Value} {t : TypeId} (h : w.heap[B]? = some (.cells cs t (0, 0))) (i : Nat) : w.frozen? ⟨B, i, none⟩ = false := by
  simp only [World.frozen?, h]
  simp
/-- A variable of two cells. -/
def Box2 (W : World) (B : Nat) (t : TypeId) (v0 v1 : Value) : Prop := W.heap[B]? = some (.cells #[v0, v1] t (0, 0))
theorem Box2.set {W : World} {B : Nat} {t : TypeId} {a0 a1 : Value} (h : Box2 W B t a0 a1) (v0 v1 : Value) : Box2 ((W.setCell ⟨B, 0, none⟩ v0).setCell ⟨B, 1, none⟩ v1) B t v0 v1 := by
  have R1 := heap_setCell_same W B 0 _ _ v0 h
  exact heap_setCell_same _ B 1 _ _ v1 R1
theorem Box2.c1 {W : World} {B : Nat} {t : TypeId} {a0 a1 : Value} (h : Box2 W B t a0 a1) (v0 : Value) : (W.setCell ⟨B, 0, none⟩ v0).cell? ⟨B, 1, none⟩ = some a1 := celOf (heap_setCell_same W B 0 _ _ v0 h) 1 _ rfl
theorem Box2.other {W : World} {B b o : Nat} {t : TypeId} {a0 a1 : Value} (h : Box2 W B t a0 a1) (hne : B ≠ b) (v : Value) : Box2 (W.setCell ⟨b, o, none⟩ v) B t a0 a1 := (Below.heap_setCell W ⟨b, o, none⟩ v B hne).trans h
theorem oth {W : World} {B b o : Nat} {t : TypeId} {a : Value} (h : Boxed W B t a) (hne : B ≠ b) (v : Value) : Boxed (W.setCell ⟨b, o, none⟩ v) B t a := (Below.heap_setCell W ⟨b, o, none⟩ v B hne).trans h
theorem Box2.below {W W' : World} {b : Nat} {t : TypeId} {v u : Value} (h : Below W.heap.size W W') (hb : Box2 W b t v u) : Box2 W' b t v u :=
  (h.block b (Array.getElem?_eq_some_iff.1 (show W.heap[b]? = _ from hb)).1).trans hb
theorem Stab.box2 {β : Type} {H : TypeId → Prop} {B b : Nat} (t : TypeId) (v0 v1 : Value) (hb : b < B) : Stab H B (fun (_ : β) W => Box2 W b t v0 v1) := fun s W W' hJ hs => hs.2 b _ hJ (.inl hb)
theorem Kp.set' {H : TypeId → Prop} {N : Nat → Prop} {B b o : Nat} {W : World} (u : Value) (hn : ¬ N b) (hB : b < B) : Kp H N B W (W.setCell ⟨b, o, none⟩ u) := by
  refine ⟨⟨rfl, rfl, rfl, by simp [World.setCell]⟩, fun k o2 hk hc => ?_⟩
  refine (Below.heap_setCell W ⟨b, o, none⟩ u k (fun e => ?_)).trans hk
  have e' : k = b := e
  subst e'
  rcases hc with h1 | h1
  · exact hn h1
  · omega
/-- What a function answers whose three results lie in variables of its own. -/
theorem results_row_cells {P : Program} {fn : Func} {p q u : Tmp} {ty ty1 ty2 : TypeId} (h : fn.results = #[.cell p ty, .cell q ty1, .cell u ty2]) (tmps : Array Value) (w : World) (g g1 g2 : Nat) (t t1 t2 : TypeId) (v0 v1 v2 v3 : Value) (d : TypeDesc)
    (hp : tmps.getD p undef = .pointer (some ⟨g, 0, none⟩)) (hq : tmps.getD q undef = .pointer (some ⟨g1, 0, none⟩)) (hu' : tmps.getD u undef = .pointer (some ⟨g2, 0, none⟩)) (hg : Box2 w g t v0 v1) (hg1 : Boxed w g1 t1 v2) (hg2 : Boxed w g2 t2 v3)
    (hu : P.underlying ty = some d) (hd : (match d with | .struct _ | .array _ _ => true | _ => false) = true) (hi : (P.info? ty).map (·.size) = some 2)
    (h1 : ∀ w' : World, w'.cell? ⟨g1, 0, none⟩ = some v2 → (loadVar ty1 ⟨g1, 0, none⟩).run P w' = .ok v2 w') (h2 : ∀ w' : World, w'.cell? ⟨g2, 0, none⟩ = some v3 → (loadVar ty2 ⟨g2, 0, none⟩).run P w' = .ok v3 w') :
    (results fn tmps).run P w = .ok (.tuple #[.agg #[v0, v1], v2, v3]) w := by
  have hp' : tmps[p]?.getD undef = .pointer (some ⟨g, 0, none⟩) := by simpa using hp
  have hq' : tmps[q]?.getD undef = .pointer (some ⟨g1, 0, none⟩) := by simpa using hq
  have hu'' : tmps[u]?.getD undef = .pointer (some ⟨g2, 0, none⟩) := by simpa using hu'
  have e1 := h1 w hg1.cell
  have e2 := h2 w hg2.cell
  simp [results, h, hp', hq', hu'', asAddr, run_loadVar_row w g t ty #[v0, v1] (0, 0) d hg hu hd hi, e1, e2, Sem.run_bind, Result.andThen]

theorem load_int {w : World} {g : Nat} {v : Value} (h : w.cell? ⟨g, 0, none⟩ = some v) : (loadVar 3 ⟨g, 0, none⟩).run Tryz.prog w = .ok v w := by
  simp [loadVar, Sem.run_bind, Tryz.isAgg3, h, go_sem]
theorem load_err {w : World} {g : Nat} {v : Value} (h : w.cell? ⟨g, 0, none⟩ = some v) : (loadVar 27 ⟨g, 0, none⟩).run Tryz.prog w = .ok v w := by
  simp [loadVar, Sem.run_bind, Tryz.isAgg27, h, go_sem]
theorem put_kept {W : World} {D b : Nat} {o o1 : Obj} (o' : Obj) (hK : W.heap[D]? = some o) (hb : W.heap[b]? = some o1) (hne : b ≠ D) : (W.putObj D o').heap[b]? = some o1 := (World.putObj_heap_other hne).trans hb

/-- The answer of Line. -/
def lineV (l : List UInt8) (n : Int) : (Int × Int) × Int × Int := if 0 ≤ n ∧ n < ((Ls l).length : Int) then (match (Ls l)[n.toNat]? with | some x => (((x.1 : Int), (x.2.1 : Int)), (x.2.2 : Int), 0) | none => ((0, 0), 0, 6)) else ((0, 0), 0, 6)
def encLV (v : (Int × Int) × Int × Int) : Value := .tuple #[.agg #[.int .i64 v.1.1, .int .i64 v.1.2], .int .i64 v.2.1, .int .i64 v.2.2]

end Go.Proofs.YtodooppapciegaaGreatDoor
namespace Go.Proofs.YtodooppapciegaaGreatDoor
open Go.RowKit Go.Shelf
set_option linter.unusedVariables false
set_option linter.unusedSimpArgs false

theorem pieces_any (pb : Nat) (s : ByteArray) (f : Int) (w : World) :
    Calls Tryz.prog 18 #[.pointer (some ⟨pb, 0, none⟩), .string s, .int .i64 f] w fun e w' => e = .returned (.func (.func 37) #[] #[.pointer (some ⟨w.heap.size, 0, none⟩), .pointer (some ⟨w.heap.size + 1, 0, none⟩), .pointer (some ⟨w.heap.size + 1 + 1, 0, none⟩)]) ∧
      w' = ((w.alloc (.cells #[.pointer (some ⟨pb, 0, none⟩)] 22)).alloc (.cells #[.string s] 9)).alloc (.cells #[.int .i64 f] 3) := by
  go_enter Tryz.func18, Tryz.ntmps18
  go_wp2
  go_ret
  exact ⟨rfl, rfl⟩
/-- The least place from one on. -/
def nextB (l : List UInt8) : Nat → Nat → Nat
  | 0, p => p
  | k + 1, p => if beginsV l (p : Int) then p else nextB l k (p + 1)
def findV (its : List Kd) (l : List UInt8) (f : Int) : Nat × Nat × Bool :=
  if (l.length : Int) < f then (0, 0, false)
  else if (searchF false its l (nextB l (l.length + 1 - f.toNat) f.toNat) l.length (run0 its.length)).fo then
    ((searchF false its l (nextB l (l.length + 1 - f.toNat) f.toNat) l.length (run0 its.length)).bf, (searchF false its l (nextB l (l.length + 1 - f.toNat) f.toNat) l.length (run0 its.length)).bt, true) else (0, 0, false)
theorem begins_fin (l : List UInt8) : beginsV l (l.length : Int) = true := by
  unfold beginsV
  simp
end Go.Proofs.YtodooppapciegaaGreatDoor
namespace Go.Proofs.YtodooppapciegaaGreatDoor
open Go.RowKit Go.Shelf
set_option linter.unusedVariables false
set_option linter.unusedSimpArgs false

section
variable {its : List Kd} {l : List UInt8} {f : Nat} {t : Int}
theorem psI_lt {i : Nat} : ∀ j, i < j → (∀ m, m < j → wdI l f m ≠ 0) → psI l f i < psI l f j
  | 0, h, _ => absurd h (Nat.not_lt_zero _)
  | j + 1, h, hv => by
    have h1 : psI l f (j + 1) = psI l f j + wdI l f j := rfl
    have h2 := hv j (Nat.lt_succ_self _)
    by_cases e : i = j
    · rw [e, h1]; omega
    · have h3 : psI l f i < psI l f j := psI_lt (i := i) j (by omega) (fun m hm => hv m (by omega))
      omega
theorem psI_len (hf : f ≤ l.length) : ∀ i, psI l f i ≤ l.length
  | 0 => hf
  | i + 1 => by
    have ih := psI_len hf i
    have h1 : psI l f (i + 1) = psI l f i + wdI l f i := rfl
    have h2 : psI l f i + wdI l f i ≤ l.length := by
      unfold wdI cw1
      split
      · exact ih
      · rename_i h0
        have h3 := cw_len _ h0
        rw [List.length_drop] at h3
        have h4 : 0 < (l.drop (psI l f i)).length := List.length_pos_iff.2 h0
        rw [List.length_drop] at h4
        omega
    omega
theorem run0_found (hf : f ≤ l.length) : Found its l f t (searchF false its l f t (run0 its.length)) := by
  refine search_found hf (by simp [run0]) (fun n r h => ?_)
  have h1 : (List.replicate (its.length + 1) 0)[n]? = some r := h
  rw [List.getElem?_replicate] at h1
  split at h1
  · exact Nat.le_of_eq (Option.some.inj h1).symm
  · exact absurd h1 (by simp)
/-- What Match says, at a place: the longest way that the items lead from there. -/
theorem match_lead {p : Int} (hb : beginsV l p = true) (h0 : 0 ≤ p) (hp : p.toNat ≤ l.length) :
    ((matchV its l p).2 = true → ∃ j, Lead l p.toNat its 0 j ∧ (psI l p.toNat j : Int) = (matchV its l p).1) ∧
    (∀ j, Lead l p.toNat its 0 j → (matchV its l p).2 = true ∧ (psI l p.toNat j : Int) ≤ (matchV its l p).1) := by
  have hs := found_lead (run0_found (its := its) (l := l) (f := p.toNat) (t := p) hp)
  unfold matchV
  rw [if_pos hb]
  generalize searchF false its l p.toNat p (run0 its.length) = τ at hs ⊢
  have h1 : τ.fo = true → ∃ j, Lead l p.toNat its 0 j ∧ psI l p.toNat j = τ.bt ∧ τ.bf = p.toNat := fun hf => by
    obtain ⟨i, j, h2, h3, h4, h5, h6⟩ := hs.1 hf
    have hi : i = 0 := by
      rcases Nat.eq_zero_or_pos i with e | e
      · exact e
      · have h7 : p.toNat < psI l p.toNat i := psI_lt (l := l) (f := p.toNat) (i := 0) i e h4
        omega
    subst hi
    exact ⟨j, h5, h6, h2.symm⟩
  refine ⟨fun hf => ?_, fun j hj => ?_⟩
  · obtain ⟨j, h2, h3, _⟩ := h1 hf
    exact ⟨j, h2, by show (psI l p.toNat j : Int) = (τ.bt : Int); rw [h3]⟩
  · have hz : psI l p.toNat 0 = p.toNat := rfl
    obtain ⟨h2, h3⟩ := hs.2 0 j (fun m hm => absurd hm (Nat.not_lt_zero _)) (by rw [hz]; omega) hj
    obtain ⟨_, _, _, h4⟩ := h1 h2
    refine ⟨h2, ?_⟩
    show (psI l p.toNat j : Int) ≤ (τ.bt : Int)
    rw [hz] at h3
    omega
/-- What a search up to the end leaves, in Lead. -/
theorem piece_lead (hf : f ≤ l.length) :
    ((searchF false its l f l.length (run0 its.length)).fo = true → ∃ i j, psI l f i = (searchF false its l f l.length (run0 its.length)).bf ∧ (∀ m, m < i → wdI l f m ≠ 0) ∧ Lead l f its i j ∧ psI l f j = (searchF false its l f l.length (run0 its.length)).bt) ∧
    (∀ i j, (∀ m, m < i → wdI l f m ≠ 0) → Lead l f its i j → (searchF false its l f l.length (run0 its.length)).fo = true ∧
      ((searchF false its l f l.length (run0 its.length)).bf < psI l f i ∨ ((searchF false its l f l.length (run0 its.length)).bf = psI l f i ∧ psI l f j ≤ (searchF false its l f l.length (run0 its.length)).bt))) := by
  have hs := found_lead (run0_found (its := its) (l := l) (f := f) (t := l.length) hf)
  refine ⟨fun h => ?_, fun i j hv hl => hs.2 i j hv (by have := psI_len (l := l) hf i; omega) hl⟩
  obtain ⟨i, j, h2, _, h4, h5, h6⟩ := hs.1 h
  exact ⟨i, j, h2, h4, h5, h6⟩
theorem lead_le : ∀ (r : List Kd) (i j : Nat), Lead l f r i j → i ≤ j
  | [], i, j, h => Nat.le_of_eq h
  | x :: r, i, j, h => by
    unfold Lead at h
    split at h
    · exact lead_le r i j h.2
    · split at h
      · exact lead_le r i j h.2
      · split at h
        · have := lead_le r (i + 1) j h.2
          omega
        · split at h
          · obtain ⟨k, h1, _, h3⟩ := h
            have := lead_le r k j h3
            omega
          · rcases h with h | h
            · exact lead_le r i j h
            · have := lead_le r (i + 1) j h.2
              omega
theorem lead_once {c : Ch → Bool} {r : List Kd} {i j : Nat} : Lead l f ((2, c) :: r) i j ↔ fit l f (2, c) i ∧ Lead l f r (i + 1) j := Iff.rfl
theorem lead_maybe {c : Ch → Bool} {r : List Kd} {i j : Nat} : Lead l f ((3, c) :: r) i j ↔ (Lead l f r i j ∨ (fit l f (3, c) i ∧ Lead l f r (i + 1) j)) := Iff.rfl
theorem lead_many {c : Ch → Bool} {r : List Kd} {i j : Nat} : Lead l f ((4, c) :: r) i j ↔ (Lead l f r i j ∨ (fit l f (4, c) i ∧ Lead l f ((4, c) :: r) (i + 1) j)) := by
  have he : ∀ i', Lead l f ((4, c) :: r) i' j ↔ ∃ k, i' ≤ k ∧ (∀ m, i' ≤ m → m < k → fit l f (4, c) m) ∧ Lead l f r k j := fun i' => Iff.rfl
  rw [he, he]
  constructor
  · rintro ⟨k, h1, h2, h3⟩
    by_cases e : i = k
    · subst e; exact .inl h3
    · exact .inr ⟨h2 i (Nat.le_refl _) (by omega), k, by omega, fun m h4 h5 => h2 m (by omega) h5, h3⟩
  · rintro (h | ⟨h, k, h1, h2, h3⟩)
    · exact ⟨i, Nat.le_refl _, fun m h1 h2 => by omega, h⟩
    · refine ⟨k, by omega, fun m h4 h5 => ?_, h3⟩
      by_cases e : m = i
      · subst e; exact h
      · exact h2 m (by omega) h5
/-- One or more: one, and any number. -/
theorem lead_plus {c : Ch → Bool} {r : List Kd} {i j : Nat} : Lead l f ((2, c) :: (4, c) :: r) i j ↔ (fit l f (2, c) i ∧ (Lead l f r (i + 1) j ∨ Lead l f ((2, c) :: (4, c) :: r) (i + 1) j)) := by
  have hf : ∀ m, fit l f (4, c) m ↔ fit l f (2, c) m := fun m => Iff.rfl
  rw [lead_once, lead_many, lead_once, hf]
end
end Go.Proofs.YtodooppapciegaaGreatDoor
namespace Go.Proofs.YtodooppapciegaaGreatDoor
set_option linter.unusedVariables false

/-- The bytes that are written for a number. -/
def seqV (n : Nat) : List Nat :=
  if n < 128 then [n] else if n < 2048 then [192 + n / 64, 128 + n % 64] else if n < 65536 then [224 + n / 4096, 128 + n / 64 % 64, 128 + n % 64]
  else [240 + n / 262144, 128 + n / 4096 % 64, 128 + n / 64 % 64, 128 + n % 64]
def mayB (n : Int) : Bool := decide (0 ≤ n ∧ n ≤ 1114111 ∧ (n < 55296 ∨ 57343 < n))
/-- The number that w bytes say. -/
def numV (l : List UInt8) (w : Nat) : Int :=
  if w = 1 then (by' l 0 : Int) else if w = 2 then ((by' l 0 : Int) - 192) * 64 + (by' l 1 : Int) % 64
  else if w = 3 then (((by' l 0 : Int) - 224) * 64 + (by' l 1 : Int) % 64) * 64 + (by' l 2 : Int) % 64
  else ((((by' l 0 : Int) - 240) * 64 + (by' l 1 : Int) % 64) * 64 + (by' l 2 : Int) % 64) * 64 + (by' l 3 : Int) % 64
def begB (l : List UInt8) (bs : List Nat) : Bool := decide (bs.length ≤ l.length ∧ ∀ i, i < bs.length → by' l i = bs.getD i 0)

theorem seqV_len (n : Nat) : 1 ≤ (seqV n).length ∧ (seqV n).length ≤ 4 := by
  unfold seqV
  repeat' split
  all_goals simp
theorem seqV_byte (n : Nat) (h : n ≤ 1114111) : ∀ x ∈ seqV n, x < 256 := by
  intro x hx
  unfold seqV at hx
  split at hx
  · simp at hx; omega
  · split at hx
    · simp at hx; omega
    · split at hx
      · simp at hx; omega
      · simp at hx; omega
theorem numV_bound (l : List UInt8) (w : Nat) : -100000000 ≤ numV l w ∧ numV l w ≤ 100000000 := by
  have h0 := by'_lt l 0
  have h1 := by'_lt l 1
  have h2 := by'_lt l 2
  have h3 := by'_lt l 3
  unfold numV
  repeat' split
  all_goals omega

/-- Whether w bytes are what is written for the number that they say. -/
def okB (l : List UInt8) (w : Nat) : Bool := mayB (numV l w) && begB l (seqV (numV l w).toNat) && decide ((seqV (numV l w).toNat).length = w)

theorem need3 {b0 b1 : Nat} : need b0 b1 = 3 ↔ (b0 = 224 ∧ 160 ≤ b1 ∧ b1 ≤ 191) ∨ (225 ≤ b0 ∧ b0 ≤ 236 ∧ 128 ≤ b1 ∧ b1 ≤ 191) ∨ (b0 = 237 ∧ 128 ≤ b1 ∧ b1 ≤ 159) ∨ (238 ≤ b0 ∧ b0 ≤ 239 ∧ 128 ≤ b1 ∧ b1 ≤ 191) := by
  unfold need
  split
  · omega
  · split
    · omega
    · split
      · omega
      · split <;> omega
theorem need4 {b0 b1 : Nat} : need b0 b1 = 4 ↔ (b0 = 240 ∧ 144 ≤ b1 ∧ b1 ≤ 191) ∨ (241 ≤ b0 ∧ b0 ≤ 243 ∧ 128 ≤ b1 ∧ b1 ≤ 191) ∨ (b0 = 244 ∧ 128 ≤ b1 ∧ b1 ≤ 143) := by
  unfold need
  split
  · omega
  · split
    · omega
    · split
      · omega
      · split <;> omega
theorem need2 {b0 b1 : Nat} : need b0 b1 = 2 ↔ 194 ≤ b0 ∧ b0 ≤ 223 ∧ 128 ≤ b1 ∧ b1 ≤ 191 := by
  unfold need
  split
  · omega
  · split
    · omega
    · split
      · omega
      · split <;> omega
theorem wd_1 {b0 b1 b2 b3 : Nat} : wd b0 b1 b2 b3 = 1 ↔ b0 < 128 := by
  rcases wd_cases b0 b1 b2 b3 with g | g | g | g | g <;> omega
theorem wd_2 {b0 b1 b2 b3 : Nat} : wd b0 b1 b2 b3 = 2 ↔ need b0 b1 = 2 := by
  rcases wd_cases b0 b1 b2 b3 with g | g | g | g | g <;> omega
theorem wd_3 {b0 b1 b2 b3 : Nat} : wd b0 b1 b2 b3 = 3 ↔ need b0 b1 = 3 ∧ 128 ≤ b2 ∧ b2 ≤ 191 := by
  rcases wd_cases b0 b1 b2 b3 with g | g | g | g | g
  all_goals (try unfold Co at g); omega
theorem wd_4 {b0 b1 b2 b3 : Nat} : wd b0 b1 b2 b3 = 4 ↔ need b0 b1 = 4 ∧ 128 ≤ b2 ∧ b2 ≤ 191 ∧ 128 ≤ b3 ∧ b3 ≤ 191 := by
  rcases wd_cases b0 b1 b2 b3 with g | g | g | g | g
  all_goals (try unfold Co at g); omega

theorem beg1 (l : List UInt8) (x : Nat) (h : 1 ≤ l.length) : begB l [x] = decide (by' l 0 = x) := by
  unfold begB
  rw [decide_eq_decide]
  constructor
  · intro g; exact g.2 0 (by simp)
  · intro g
    refine ⟨h, fun i hi => ?_⟩
    have : i = 0 := by simpa using hi
    subst this; exact g
theorem beg2 (l : List UInt8) (x y : Nat) (h : 2 ≤ l.length) : begB l [x, y] = decide (by' l 0 = x ∧ by' l 1 = y) := by
  unfold begB
  rw [decide_eq_decide]
  constructor
  · intro g; exact ⟨g.2 0 (by simp), g.2 1 (by simp)⟩
  · intro g
    refine ⟨h, fun i hi => ?_⟩
    have hi2 : i < 2 := hi
    have : i = 0 ∨ i = 1 := by omega
    rcases this with rfl | rfl
    · exact g.1
    · exact g.2
theorem beg3 (l : List UInt8) (x y z : Nat) (h : 3 ≤ l.length) : begB l [x, y, z] = decide (by' l 0 = x ∧ by' l 1 = y ∧ by' l 2 = z) := by
  unfold begB
  rw [decide_eq_decide]
  constructor
  · intro g; exact ⟨g.2 0 (by simp), g.2 1 (by simp), g.2 2 (by simp)⟩
  · intro g
    refine ⟨h, fun i hi => ?_⟩
    have hi2 : i < 3 := hi
    have : i = 0 ∨ i = 1 ∨ i = 2 := by omega
    rcases this with rfl | rfl | rfl
    · exact g.1
    · exact g.2.1
    · exact g.2.2
theorem beg4 (l : List UInt8) (x y z v : Nat) (h : 4 ≤ l.length) : begB l [x, y, z, v] = decide (by' l 0 = x ∧ by' l 1 = y ∧ by' l 2 = z ∧ by' l 3 = v) := by
  unfold begB
  rw [decide_eq_decide]
  constructor
  · intro g; exact ⟨g.2 0 (by simp), g.2 1 (by simp), g.2 2 (by simp), g.2 3 (by simp)⟩
  · intro g
    refine ⟨h, fun i hi => ?_⟩
    have hi2 : i < 4 := hi
    have : i = 0 ∨ i = 1 ∨ i = 2 ∨ i = 3 := by omega
    rcases this with rfl | rfl | rfl | rfl
    · exact g.1
    · exact g.2.1
    · exact g.2.2.1
    · exact g.2.2.2
theorem seq1 {n : Nat} : (seqV n).length = 1 ↔ n < 128 := by
  unfold seqV
  split
  · simp; omega
  · split
    · simp; omega
    · split <;> simp <;> omega
theorem seq2 {n : Nat} : (seqV n).length = 2 ↔ 128 ≤ n ∧ n < 2048 := by
  unfold seqV
  split
  · simp; omega
  · split
    · simp; omega
    · split <;> simp <;> omega
theorem seq3 {n : Nat} : (seqV n).length = 3 ↔ 2048 ≤ n ∧ n < 65536 := by
  unfold seqV
  split
  · simp; omega
  · split
    · simp; omega
    · split <;> simp <;> omega
theorem seq4 {n : Nat} : (seqV n).length = 4 ↔ 65536 ≤ n := by
  unfold seqV
  split
  · simp; omega
  · split
    · simp; omega
    · split <;> simp <;> omega
theorem mayB_iff {n : Int} : mayB n = true ↔ 0 ≤ n ∧ n ≤ 1114111 ∧ (n < 55296 ∨ 57343 < n) := by unfold mayB; rw [decide_eq_true_eq]

theorem okB_iff (l : List UInt8) (w : Nat) (h1 : 1 ≤ w) (h4 : w ≤ 4) (hl : w ≤ l.length) : okB l w = true ↔ W l = w := by
  have g0 := by'_lt l 0
  have g1 := by'_lt l 1
  have g2 := by'_lt l 2
  have g3 := by'_lt l 3
  have hw : w = 1 ∨ w = 2 ∨ w = 3 ∨ w = 4 := by omega
  unfold okB W
  rw [Bool.and_eq_true, Bool.and_eq_true, decide_eq_true_eq, mayB_iff]
  rcases hw with rfl | rfl | rfl | rfl
  · have hn : numV l 1 = (by' l 0 : Int) := rfl
    rw [hn, Int.toNat_natCast, wd_1, seq1]
    constructor
    · intro h; exact h.2
    · intro h
      refine ⟨⟨by omega, ?_⟩, h⟩
      have hs : seqV (by' l 0) = [by' l 0] := by unfold seqV; rw [if_pos h]
      rw [hs, beg1 l _ hl, decide_eq_true rfl]
  · have hn : numV l 2 = ((by' l 0 : Int) - 192) * 64 + (by' l 1 : Int) % 64 := rfl
    rw [hn, wd_2, need2, seq2]
    generalize hm : ((((by' l 0 : Int) - 192) * 64 + (by' l 1 : Int) % 64)).toNat = m
    have hs : 128 ≤ m ∧ m < 2048 → begB l (seqV m) = decide (by' l 0 = 192 + m / 64 ∧ by' l 1 = 128 + m % 64) := fun h => by
      have : seqV m = [192 + m / 64, 128 + m % 64] := by unfold seqV; rw [if_neg (by omega), if_pos (by omega)]
      rw [this, beg2 l _ _ hl]
    constructor
    · rintro ⟨⟨h, hb⟩, hr⟩
      rw [hs hr, decide_eq_true_eq] at hb
      omega
    · intro h
      have hr : 128 ≤ m ∧ m < 2048 := by omega
      exact ⟨⟨by omega, by rw [hs hr, decide_eq_true_eq]; omega⟩, hr⟩
  · have hn : numV l 3 = (((by' l 0 : Int) - 224) * 64 + (by' l 1 : Int) % 64) * 64 + (by' l 2 : Int) % 64 := rfl
    rw [hn, wd_3, need3, seq3]
    generalize hm : ((((by' l 0 : Int) - 224) * 64 + (by' l 1 : Int) % 64) * 64 + (by' l 2 : Int) % 64).toNat = m
    have hs : 2048 ≤ m ∧ m < 65536 → begB l (seqV m) = decide (by' l 0 = 224 + m / 4096 ∧ by' l 1 = 128 + m / 64 % 64 ∧ by' l 2 = 128 + m % 64) := fun h => by
      have : seqV m = [224 + m / 4096, 128 + m / 64 % 64, 128 + m % 64] := by unfold seqV; rw [if_neg (by omega), if_neg (by omega), if_pos (by omega)]
      rw [this, beg3 l _ _ _ hl]
    constructor
    · rintro ⟨⟨h, hb⟩, hr⟩
      rw [hs hr, decide_eq_true_eq] at hb
      omega
    · intro h
      have hr : 2048 ≤ m ∧ m < 65536 := by omega
      exact ⟨⟨by omega, by rw [hs hr, decide_eq_true_eq]; omega⟩, hr⟩
  · have hn : numV l 4 = ((((by' l 0 : Int) - 240) * 64 + (by' l 1 : Int) % 64) * 64 + (by' l 2 : Int) % 64) * 64 + (by' l 3 : Int) % 64 := rfl
    rw [hn, wd_4, need4, seq4]
    generalize hm : (((((by' l 0 : Int) - 240) * 64 + (by' l 1 : Int) % 64) * 64 + (by' l 2 : Int) % 64) * 64 + (by' l 3 : Int) % 64).toNat = m
    have hs : 65536 ≤ m → begB l (seqV m) = decide (by' l 0 = 240 + m / 262144 ∧ by' l 1 = 128 + m / 4096 % 64 ∧ by' l 2 = 128 + m / 64 % 64 ∧ by' l 3 = 128 + m % 64) := fun h => by
      have : seqV m = [240 + m / 262144, 128 + m / 4096 % 64, 128 + m / 64 % 64, 128 + m % 64] := by unfold seqV; rw [if_neg (by omega), if_neg (by omega), if_neg (by omega)]
      rw [this, beg4 l _ _ _ _ hl]
    constructor
    · rintro ⟨⟨h, hb⟩, hr⟩
      rw [hs hr, decide_eq_true_eq] at hb
      omega
    · intro h
      have hr : 65536 ≤ m := by omega
      exact ⟨⟨by omega, by rw [hs hr, decide_eq_true_eq]; omega⟩, hr⟩

theorem numV_rune (l : List UInt8) (w : Nat) (h1 : 1 ≤ w) (h : W l = w) : numV l w = (rune l : Int) := by
  have h4 := W_le4 l
  unfold rune
  rw [h]
  unfold W at h
  have hw : w = 1 ∨ w = 2 ∨ w = 3 ∨ w = 4 := by unfold W at h4; omega
  rcases hw with rfl | rfl | rfl | rfl
  · rfl
  · rw [wd_2, need2] at h
    show ((by' l 0 : Int) - 192) * 64 + (by' l 1 : Int) % 64 = ((by' l 0 % 32 * 64 + by' l 1 % 64 : Nat) : Int)
    omega
  · rw [wd_3, need3] at h
    show (((by' l 0 : Int) - 224) * 64 + (by' l 1 : Int) % 64) * 64 + (by' l 2 : Int) % 64 = ((by' l 0 % 16 * 4096 + by' l 1 % 64 * 64 + by' l 2 % 64 : Nat) : Int)
    omega
  · rw [wd_4, need4] at h
    show ((((by' l 0 : Int) - 240) * 64 + (by' l 1 : Int) % 64) * 64 + (by' l 2 : Int) % 64) * 64 + (by' l 3 : Int) % 64 = ((by' l 0 % 8 * 262144 + by' l 1 % 64 * 4096 + by' l 2 % 64 * 64 + by' l 3 % 64 : Nat) : Int)
    omega
end Go.Proofs.YtodooppapciegaaGreatDoor
namespace Go.Proofs.YtodooppapciegaaGreatDoor
open Go.RowKit Go.Shelf
set_option linter.unusedVariables false
set_option linter.unusedSimpArgs false

/-- How wide a sequence is, by what it stands for; and its bytes. -/
theorem num_back (b0 b1 b2 b3 : Nat) (h : wd b0 b1 b2 b3 ≠ 0) :
    (wd b0 b1 b2 b3 = 1 ∧ num (wd b0 b1 b2 b3) b0 b1 b2 b3 = b0 ∧ b0 < 128) ∨
    (wd b0 b1 b2 b3 = 2 ∧ num (wd b0 b1 b2 b3) b0 b1 b2 b3 = (b0 - 192) * 64 + (b1 - 128) ∧ 194 ≤ b0 ∧ b0 ≤ 223 ∧ 128 ≤ b1 ∧ b1 ≤ 191) ∨
    (wd b0 b1 b2 b3 = 3 ∧ num (wd b0 b1 b2 b3) b0 b1 b2 b3 = (b0 - 224) * 4096 + (b1 - 128) * 64 + (b2 - 128) ∧ 224 ≤ b0 ∧ b0 ≤ 239 ∧ 128 ≤ b1 ∧ b1 ≤ 191 ∧ 128 ≤ b2 ∧ b2 ≤ 191 ∧ (b0 = 224 → 160 ≤ b1)) ∨
    (wd b0 b1 b2 b3 = 4 ∧ num (wd b0 b1 b2 b3) b0 b1 b2 b3 = (b0 - 240) * 262144 + (b1 - 128) * 4096 + (b2 - 128) * 64 + (b3 - 128) ∧ 240 ≤ b0 ∧ b0 ≤ 244 ∧ 128 ≤ b1 ∧ b1 ≤ 191 ∧ 128 ≤ b2 ∧ b2 ≤ 191 ∧ 128 ≤ b3 ∧ b3 ≤ 191 ∧ (b0 = 240 → 144 ≤ b1)) := by
  rcases wd_cases b0 b1 b2 b3 with g | g | g | g | g
  · rw [g.1]; exact .inl ⟨rfl, rfl, g.2.2⟩
  · have h2 := need2.1 g.2.1
    rw [g.1]
    refine .inr (.inl ⟨rfl, ?_, by omega, by omega, by omega, by omega⟩)
    show b0 % 32 * 64 + b1 % 64 = _
    omega
  · have h2 := need3.1 g.2.1
    have h3 := g.2.2.2.2.2
    unfold Co at h3
    rw [g.1]
    refine .inr (.inr (.inl ⟨rfl, ?_, by omega, by omega, by omega, by omega, by omega, by omega, by omega⟩))
    show b0 % 16 * 4096 + b1 % 64 * 64 + b2 % 64 = _
    omega
  · have h2 := need4.1 g.2.1
    have h3 := g.2.2.2.2.2
    unfold Co at h3
    rw [g.1]
    refine .inr (.inr (.inr ⟨rfl, ?_, by omega, by omega, by omega, by omega, by omega, by omega, by omega, by omega, by omega⟩))
    show b0 % 8 * 262144 + b1 % 64 * 4096 + b2 % 64 * 64 + b3 % 64 = _
    omega
  · exact absurd g.1 h
/-- One character, one width and the same bytes. -/
theorem ch1_back {a b : List UInt8} (ha : a ≠ []) (hb : b ≠ []) (h : ch1 a = ch1 b) : cw a = cw b ∧ ∀ k, k < cw a → by' a k = by' b k := by
  unfold ch1 at h
  rw [if_neg ha, if_neg hb] at h
  unfold cw
  by_cases wa : W a = 0
  · by_cases wb : W b = 0
    · rw [if_pos wa, if_pos wb] at h
      rw [if_pos wa, if_pos wb]
      refine ⟨rfl, fun k hk => ?_⟩
      obtain rfl : k = 0 := by omega
      have := (Prod.mk.inj h).1
      omega
    · rw [if_pos wa, if_neg wb] at h
      exact absurd (Prod.mk.inj h).2 (by simp)
  · by_cases wb : W b = 0
    · rw [if_neg wa, if_pos wb] at h
      exact absurd (Prod.mk.inj h).2 (by simp)
    · rw [if_neg wa, if_neg wb] at h
      rw [if_neg wa, if_neg wb]
      have hr : rune a = rune b := by have := (Prod.mk.inj h).1; omega
      unfold rune at hr
      have na := num_back (by' a 0) (by' a 1) (by' a 2) (by' a 3) wa
      have nb := num_back (by' b 0) (by' b 1) (by' b 2) (by' b 3) wb
      change num (wd (by' a 0) (by' a 1) (by' a 2) (by' a 3)) (by' a 0) (by' a 1) (by' a 2) (by' a 3) = num (wd (by' b 0) (by' b 1) (by' b 2) (by' b 3)) (by' b 0) (by' b 1) (by' b 2) (by' b 3) at hr
      rw [show W a = wd (by' a 0) (by' a 1) (by' a 2) (by' a 3) from rfl, show W b = wd (by' b 0) (by' b 1) (by' b 2) (by' b 3) from rfl]
      generalize num (wd (by' a 0) (by' a 1) (by' a 2) (by' a 3)) (by' a 0) (by' a 1) (by' a 2) (by' a 3) = x at hr na
      generalize num (wd (by' b 0) (by' b 1) (by' b 2) (by' b 3)) (by' b 0) (by' b 1) (by' b 2) (by' b 3) = y at hr nb
      generalize wd (by' a 0) (by' a 1) (by' a 2) (by' a 3) = u at na
      generalize wd (by' b 0) (by' b 1) (by' b 2) (by' b 3) = v at nb
      subst hr
      have key : u = v ∧ (0 < u → by' a 0 = by' b 0) ∧ (1 < u → by' a 1 = by' b 1) ∧ (2 < u → by' a 2 = by' b 2) ∧ (3 < u → by' a 3 = by' b 3) ∧ u ≤ 4 := by
        generalize by' a 0 = a0 at na ⊢
        generalize by' a 1 = a1 at na ⊢
        generalize by' a 2 = a2 at na ⊢
        generalize by' a 3 = a3 at na ⊢
        generalize by' b 0 = b0 at nb ⊢
        generalize by' b 1 = b1 at nb ⊢
        generalize by' b 2 = b2 at nb ⊢
        generalize by' b 3 = b3 at nb ⊢
        rcases na with na | na | na | na <;> rcases nb with nb | nb | nb | nb <;> refine ⟨?_, ?_, ?_, ?_, ?_, ?_⟩ <;> omega
      refine ⟨key.1, fun k hk => ?_⟩
      match k, hk with
      | 0, hk => exact key.2.1 hk
      | 1, hk => exact key.2.2.1 hk
      | 2, hk => exact key.2.2.2.1 hk
      | 3, hk => exact key.2.2.2.2.1 hk
      | k + 4, hk => have := key.2.2.2.2.2; omega
end Go.Proofs.YtodooppapciegaaGreatDoor
namespace Go.Proofs.YtodooppapciegaaGreatDoor
open Go.RowKit Go.Shelf
set_option linter.unusedVariables false
set_option linter.unusedSimpArgs false

/-- A character begins here, or the text ends. -/
def Bg (l : List UInt8) (q : Nat) : Prop := q = l.length ∨ St l q
theorem begins_bg {l : List UInt8} {q : Nat} (h : q ≤ l.length) : beginsV l (q : Int) = true ↔ Bg l q := by
  unfold beginsV Bg
  by_cases e : q = l.length
  · subst e; simp
  · have hlt : q < l.length := by omega
    have e2 : (q : Int) ≠ (l.length : Int) := by omega
    rw [decide_eq_true (by omega : (0 : Int) ≤ q), decide_eq_true (by omega : (q : Int) ≤ l.length), decide_eq_false e2]
    simp only [Bool.true_and, Bool.false_or, decide_eq_true_eq, Int.toNat_natCast]
    rw [begins_iff l q hlt]
    exact ⟨.inr, fun h => h.resolve_left e⟩
theorem ch1_same {a b : List UInt8} (ha : a ≠ []) (hb : b ≠ []) (hw : cw a = cw b) (h : ∀ k, k < cw a → by' a k = by' b k) : ch1 a = ch1 b := by
  have h0 := h 0 (by have := cw_pos a; omega)
  have a1 : W a = 1 ↔ by' a 0 < 128 := wd_1
  have b1 : W b = 1 ↔ by' b 0 < 128 := wd_1
  have hww : W a = W b := by
    unfold cw at hw
    split at hw <;> split at hw <;> omega
  unfold ch1
  rw [if_neg ha, if_neg hb, ← hww]
  by_cases wa : W a = 0
  · rw [if_pos wa, if_pos wa, h0]
  · rw [if_neg wa, if_neg wa]
    have hc : cw a = W a := by unfold cw; rw [if_neg wa]
    rw [hc] at h
    have hr : rune a = rune b := by
      unfold rune
      rw [← hww]
      have h4 := W_le4 a
      generalize W a = w at h wa h4
      unfold num
      split
      · exact h0
      · split
        · rw [h0, h 1 (by omega)]
        · split
          · rw [h0, h 1 (by omega), h 2 (by omega)]
          · split
            · rw [h0, h 1 (by omega), h 2 (by omega), h 3 (by omega)]
            · rfl
    rw [hr]
theorem bg_next {l : List UInt8} {q : Nat} (h : St l q) : Bg l (q + cw (l.drop q)) := by
  have hq := St_lt h
  have hl := cw_len _ (drop_ne hq)
  rw [List.length_drop] at hl
  by_cases e : q + cw (l.drop q) = l.length
  · exact .inl e
  · obtain ⟨j, h1, h2, h3⟩ := St_cover l (q + cw (l.drop q)) (by omega)
    have hp := cw_pos (l.drop q)
    by_cases e2 : j = q + cw (l.drop q)
    · exact .inr (e2 ▸ h1)
    · by_cases e3 : j = q
      · subst e3; omega
      · rcases Nat.lt_or_gt_of_ne e3 with e4 | e4
        · have := St_two h h1 e4; omega
        · have := St_two h1 h e4; omega
theorem bg_step {l : List UInt8} (h : l ≠ []) (x : Nat) : Bg l (cw l + x) ↔ Bg (l.drop (cw l)) x := by
  have hl := cw_len l h
  unfold Bg
  rw [St_step h, List.length_drop]
  constructor
  · rintro (e | e)
    · exact .inl (by omega)
    · exact .inr e
  · rintro (e | e)
    · exact .inl (by omega)
    · exact .inr e
/-- A text stands in another one at a place, character by character. -/
def Stands (t s : List UInt8) (q : Nat) : Prop := q + s.length ≤ t.length ∧ (∀ x, x < s.length → by' t (q + x) = by' s x) ∧ ∀ x, x ≤ s.length → (Bg t (q + x) ↔ Bg s x)
theorem stands_nil {t : List UInt8} {q : Nat} (h : Bg t q) (hq : q ≤ t.length) : Stands t [] q :=
  ⟨by simpa using hq, fun x hx => absurd hx (Nat.not_lt_zero _), fun x hx => by
    obtain rfl : x = 0 := by simpa using hx
    exact ⟨fun _ => .inl rfl, fun _ => by simpa using h⟩⟩
theorem stands_cons {t s : List UInt8} {q : Nat} (hs : s ≠ []) (hb : Bg t q) : Stands t s q ↔ (t.drop q ≠ [] ∧ ch1 (t.drop q) = ch1 s ∧ Stands t (s.drop (cw s)) (q + cw s)) := by
  have hcs := cw_len s hs
  have hps := cw_pos s
  constructor
  · rintro ⟨h1, h2, h3⟩
    have hq : q < t.length := by omega
    have hst : St t q := hb.resolve_left (by omega)
    have hne := drop_ne hq
    have hcu := cw_len _ hne
    have hpu := cw_pos (t.drop q)
    rw [List.length_drop] at hcu
    have hw : cw (t.drop q) = cw s := by
      rcases Nat.lt_trichotomy (cw (t.drop q)) (cw s) with g | g | g
      · have k := (h3 (cw (t.drop q)) (by omega)).1 (bg_next hst)
        rcases k with k | k
        · omega
        · exact absurd k (St_inside hs (by omega) g)
      · exact g
      · have k0 : Bg s (cw s) := by have := (bg_step hs 0).2; rw [Nat.add_zero] at this; exact this (by
          by_cases e : s.drop (cw s) = []
          · rw [e]; exact .inl rfl
          · exact .inr (St_zero e))
        have k := (h3 (cw s) hcs).2 k0
        rcases k with k | k
        · omega
        · have := St_two k hst (by omega)
          omega
    refine ⟨hne, ch1_same hne hs hw (fun k hk => by rw [by'_drop]; exact h2 k (by omega)), ?_, fun x hx => ?_, fun x hx => ?_⟩
    · rw [List.length_drop]; omega
    · rw [List.length_drop] at hx
      rw [by'_drop, Nat.add_assoc]
      exact h2 _ (by omega)
    · rw [List.length_drop] at hx
      rw [Nat.add_assoc, h3 (cw s + x) (by omega), bg_step hs]
  · rintro ⟨hne, hc, h1, h2, h3⟩
    have hq : q < t.length := by
      rcases Nat.lt_or_ge q t.length with g | g
      · exact g
      · exact absurd (List.drop_eq_nil_of_le g) hne
    have hst : St t q := hb.resolve_left (by omega)
    obtain ⟨hw, hby⟩ := ch1_back hne hs hc
    rw [List.length_drop] at h1
    refine ⟨by omega, fun x hx => ?_, fun x hx => ?_⟩
    · by_cases g : x < cw s
      · have := hby x (by omega)
        rwa [by'_drop] at this
      · have := h2 (x - cw s) (by rw [List.length_drop]; omega)
        rw [by'_drop, show q + cw s + (x - cw s) = q + x by omega, show cw s + (x - cw s) = x by omega] at this
        exact this
    · by_cases g : x < cw s
      · by_cases e : x = 0
        · subst e
          exact ⟨fun _ => .inr (St_zero hs), fun _ => hb⟩
        · constructor
          · rintro (k | k)
            · omega
            · have := St_two k hst (by omega)
              omega
          · rintro (k | k)
            · omega
            · exact absurd k (St_inside hs (by omega) g)
      · have k1 := h3 (x - cw s) (by rw [List.length_drop]; omega)
        have k2 := bg_step hs (x - cw s)
        rw [show q + cw s + (x - cw s) = q + x by omega] at k1
        rw [show cw s + (x - cw s) = x by omega] at k2
        exact k1.trans k2.symm
/-- A text's characters. -/
def chsF : Nat → List UInt8 → List Ch
  | 0, _ => []
  | k + 1, l => if l = [] then [] else ch1 l :: chsF k (l.drop (cw l))
/-- Items that are one character each. -/
def plain (cs : List Ch) : List Kd := cs.map fun c => (2, oneP false c)
theorem lead_plain {t : List UInt8} {f : Nat} : ∀ (k : Nat) (s : List UInt8) (i j : Nat), s.length ≤ k → Bg t (psI t f i) → psI t f i ≤ t.length →
    (Lead t f (plain (chsF k s)) i j ↔ (Stands t s (psI t f i) ∧ j = i + (chsF k s).length)) ∧ (Stands t s (psI t f i) → psI t f (i + (chsF k s).length) = psI t f i + s.length)
  | 0, s, i, j, hk, hb, hq => by
    obtain rfl : s = [] := List.eq_nil_of_length_eq_zero (by omega)
    exact ⟨⟨fun h => ⟨stands_nil hb hq, by have h2 : i = j := h; exact h2.symm⟩, fun h => by have h2 : j = i := h.2; exact h2.symm⟩, fun _ => rfl⟩
  | k + 1, s, i, j, hk, hb, hq => by
    by_cases e : s = []
    · subst e
      exact ⟨⟨fun h => ⟨stands_nil hb hq, by have h2 : i = j := h; exact h2.symm⟩, fun h => by have h2 : j = i := h.2; exact h2.symm⟩, fun _ => rfl⟩
    · have he : chsF (k + 1) s = ch1 s :: chsF k (s.drop (cw s)) := by rw [chsF, if_neg e]
      have hcs := cw_len s e
      have hps := cw_pos s
      rw [he, List.length_cons]
      have hl : Lead t f (plain (ch1 s :: chsF k (s.drop (cw s)))) i j ↔ (fit t f (2, oneP false (ch1 s)) i ∧ Lead t f (plain (chsF k (s.drop (cw s)))) (i + 1) j) := lead_once
      have hfit : fit t f (2, oneP false (ch1 s)) i ↔ (t.drop (psI t f i) ≠ [] ∧ ch1 (t.drop (psI t f i)) = ch1 s) := by
        have h1 : fit t f (2, oneP false (ch1 s)) i ↔ (cw1 (t.drop (psI t f i)) ≠ 0 ∧ decide (ch1 (t.drop (psI t f i)) = ch1 s) = true) := Iff.rfl
        rw [h1, decide_eq_true_eq]
        have h2 : cw1 (t.drop (psI t f i)) ≠ 0 ↔ t.drop (psI t f i) ≠ [] := by
          unfold cw1
          split
          · rename_i g; simp [g]
          · rename_i g
            have := cw_pos (t.drop (psI t f i))
            exact ⟨fun _ => g, fun _ => by omega⟩
        rw [h2]
      have hn : t.drop (psI t f i) ≠ [] → ch1 (t.drop (psI t f i)) = ch1 s → psI t f (i + 1) = psI t f i + cw s ∧ Bg t (psI t f (i + 1)) ∧ psI t f (i + 1) ≤ t.length := fun g1 g2 => by
        have g3 : psI t f (i + 1) = psI t f i + cw1 (t.drop (psI t f i)) := rfl
        have g4 : cw1 (t.drop (psI t f i)) = cw (t.drop (psI t f i)) := by unfold cw1; rw [if_neg g1]
        have g5 := (ch1_back g1 e g2).1
        have g6 : psI t f i < t.length := by
          rcases Nat.lt_or_ge (psI t f i) t.length with g | g
          · exact g
          · exact absurd (List.drop_eq_nil_of_le g) g1
        have g7 := cw_len _ g1
        rw [List.length_drop] at g7
        refine ⟨by omega, ?_, by omega⟩
        rw [g3, g4]
        exact bg_next (hb.resolve_left (by omega))
      rw [hl, hfit, stands_cons e hb]
      refine ⟨⟨?_, ?_⟩, ?_⟩
      · rintro ⟨⟨g1, g2⟩, g3⟩
        obtain ⟨n1, n2, n3⟩ := hn g1 g2
        have ih := (lead_plain k (s.drop (cw s)) (i + 1) j (by rw [List.length_drop]; omega) n2 n3).1.1 g3
        exact ⟨⟨g1, g2, n1 ▸ ih.1⟩, by have := ih.2; omega⟩
      · rintro ⟨⟨g1, g2, g3⟩, g4⟩
        obtain ⟨n1, n2, n3⟩ := hn g1 g2
        exact ⟨⟨g1, g2⟩, (lead_plain k (s.drop (cw s)) (i + 1) j (by rw [List.length_drop]; omega) n2 n3).1.2 ⟨n1.symm ▸ g3, by omega⟩⟩
      · rintro ⟨g1, g2, g3⟩
        obtain ⟨n1, n2, n3⟩ := hn g1 g2
        have ih := (lead_plain k (s.drop (cw s)) (i + 1) j (by rw [List.length_drop]; omega) n2 n3).2 (n1.symm ▸ g3)
        rw [List.length_drop] at ih
        rw [show i + ((chsF k (s.drop (cw s))).length + 1) = i + 1 + (chsF k (s.drop (cw s))).length by omega, ih]
        omega
/-- What Match says of a pattern of plain characters. -/
theorem match_plain {t s : List UInt8} {q : Nat} (hq : q ≤ t.length) (hb : beginsV t (q : Int) = true) :
    matchV (plain (chsF s.length s)) t (q : Int) = (if (matchV (plain (chsF s.length s)) t (q : Int)).2 = true then ((q : Int) + s.length, true) else matchV (plain (chsF s.length s)) t (q : Int)) ∧
    ((matchV (plain (chsF s.length s)) t (q : Int)).2 = true ↔ Stands t s q) := by
  have hm := match_lead (its := plain (chsF s.length s)) hb (by omega) (by omega : (q : Int).toNat ≤ t.length)
  rw [Int.toNat_natCast] at hm
  have hl := fun j => lead_plain (t := t) (f := q) s.length s 0 j (Nat.le_refl _) ((begins_bg hq).1 hb) hq
  have hz : psI t q 0 = q := rfl
  rw [hz] at hl
  generalize matchV (plain (chsF s.length s)) t (q : Int) = m at hm ⊢
  obtain ⟨a, b⟩ := m
  refine ⟨?_, fun h => ?_, fun h => ?_⟩
  · by_cases h : b = true
    · rw [if_pos h]
      obtain ⟨j, h1, h2⟩ := hm.1 h
      obtain ⟨h3, h4⟩ := (hl j).1.1 h1
      have h5 := (hl j).2 h3
      rw [← h4] at h5
      have h6 : (psI t q j : Int) = a := h2
      rw [h] 
      congr 1
      omega
    · rw [if_neg h]
  · obtain ⟨j, h1, h2⟩ := hm.1 h
    exact ((hl j).1.1 h1).1
  · exact (hm.2 _ ((hl _).1.2 ⟨h, rfl⟩)).1
end Go.Proofs.YtodooppapciegaaGreatDoor
namespace Go.Proofs.YtodooppapciegaaGreatDoor
open Go.RowKit Go.Shelf
set_option linter.unusedVariables false

/-- The marks that do not stand for themselves. -/
def xmk (c : Nat) : Bool := c == 46 || c == 91 || c == 93 || c == 42 || c == 43 || c == 63 || c == 94 || c == 36 || c == 92
def xq1 (b : UInt8) : List UInt8 := if xmk b.toNat = true then [92, b] else [b]
def xqo (l : List UInt8) : List UInt8 := l.flatMap xq1
theorem xqo_len (l : List UInt8) : (xqo l).length ≤ 2 * l.length := by
  unfold xqo
  induction l with
  | nil => simp
  | cons a t ih =>
    rw [List.flatMap_cons, List.length_append, List.length_cons]
    have : (xq1 a).length ≤ 2 := by unfold xq1; split <;> simp
    omega
theorem xqo_snoc {l : List UInt8} {k : Nat} (h : k < l.length) : xqo (l.take (k + 1)) = xqo (l.take k) ++ xq1 l[k] := by
  unfold xqo
  rw [List.take_add_one, List.getElem?_eq_getElem h, List.flatMap_append]
  simp
theorem xmk_cases (c : Nat) : (xmk c = true ∧ (c = 46 ∨ c = 91 ∨ c = 93 ∨ c = 42 ∨ c = 43 ∨ c = 63 ∨ c = 94 ∨ c = 36 ∨ c = 92)) ∨ (xmk c = false ∧ c ≠ 46 ∧ c ≠ 91 ∧ c ≠ 93 ∧ c ≠ 42 ∧ c ≠ 43 ∧ c ≠ 63 ∧ c ≠ 94 ∧ c ≠ 36 ∧ c ≠ 92) := by
  unfold xmk
  cases h : (c == 46 || c == 91 || c == 93 || c == 42 || c == 43 || c == 63 || c == 94 || c == 36 || c == 92) with
  | true => simp at h; exact .inl ⟨rfl, by omega⟩
  | false => simp at h; exact .inr ⟨rfl, by omega⟩
end Go.Proofs.YtodooppapciegaaGreatDoor
namespace Go.Proofs.YtodooppapciegaaGreatDoor
open Go.RowKit Go.Shelf
set_option linter.unusedVariables false
set_option linter.unusedSimpArgs false

theorem xqo_cons (b : UInt8) (t : List UInt8) : xqo (b :: t) = xq1 b ++ xqo t := by unfold xqo; rw [List.flatMap_cons]
theorem by'_zero (b : UInt8) (t : List UInt8) : by' (b :: t) 0 = b.toNat := rfl
theorem by'_succ (b : UInt8) (t : List UInt8) (k : Nat) : by' (b :: t) (k + 1) = by' t k := rfl
theorem by'_nil (k : Nat) : by' [] k = 0 := rfl
theorem xmk_low {c : Nat} (h : 128 ≤ c) : xmk c = false := by
  rcases xmk_cases c with ⟨_, g⟩ | ⟨g, _⟩
  · omega
  · exact g
theorem xq1_plain {b : UInt8} (h : xmk b.toNat = false) : xq1 b = [b] := by unfold xq1; rw [h]; rfl
theorem xq1_mark {b : UInt8} (h : xmk b.toNat = true) : xq1 b = [92, b] := by unfold xq1; rw [h]; rfl
/-- Wide bytes stay as they are. -/
theorem xqo_wide : ∀ (k : Nat) (t : List UInt8), (∀ m, m < k → 128 ≤ by' t m) → (∀ m, m < k → by' (xqo t) m = by' t m) ∧ (xqo t).drop k = xqo (t.drop k)
  | 0, t, _ => ⟨fun m h => absurd h (Nat.not_lt_zero _), rfl⟩
  | k + 1, [], h => absurd (h 0 (by omega)) (by rw [by'_nil]; omega)
  | k + 1, b :: t, h => by
    have h0 := h 0 (by omega)
    rw [by'_zero] at h0
    obtain ⟨h1, h2⟩ := xqo_wide k t (fun m hm => by have := h (m + 1) (by omega); rwa [by'_succ] at this)
    rw [xqo_cons, xq1_plain (xmk_low h0)]
    refine ⟨fun m hm => ?_, h2⟩
    match m, hm with
    | 0, _ => rfl
    | m + 1, hm => exact h1 m (by omega)
theorem xqo_back : ∀ (k : Nat) (t : List UInt8), (∀ m, m < k → 128 ≤ by' (xqo t) m) → ∀ m, m < k → 128 ≤ by' t m
  | 0, t, _ => fun m h => absurd h (Nat.not_lt_zero _)
  | k + 1, [], h => absurd (h 0 (by omega)) (by show ¬ 128 ≤ by' [] 0; rw [by'_nil]; omega)
  | k + 1, b :: t, h => by
    have h0 := h 0 (by omega)
    rw [xqo_cons] at h0 h
    by_cases hb : xmk b.toNat = true
    · rw [xq1_mark hb] at h0
      exact absurd h0 (by show ¬ 128 ≤ (92 : UInt8).toNat; decide)
    · have hb2 : xmk b.toNat = false := by simpa using hb
      rw [xq1_plain hb2] at h0 h
      have ih := xqo_back k t (fun m hm => h (m + 1) (by omega))
      intro m hm
      match m, hm with
      | 0, _ => exact h0
      | m + 1, hm => exact ih m (by omega)
/-- How wide a right character is, its own bytes say. -/
theorem W_pre {a b : List UInt8} (h0 : W a ≠ 0) (h : ∀ k, k < W a → by' a k = by' b k) : W b = W a := by
  have hp := h 0 (by omega)
  unfold W at h h0 ⊢
  rcases num_back (by' a 0) (by' a 1) (by' a 2) (by' a 3) h0 with g | g | g | g
  · rw [g.1]; exact wd_1.2 (by omega)
  · have h1 := h 1 (by omega)
    have k := wd_2.1 g.1
    rw [g.1]
    exact wd_2.2 (by rw [← hp, ← h1]; exact k)
  · have h1 := h 1 (by omega)
    have h2 := h 2 (by omega)
    have k := wd_3.1 g.1
    rw [g.1]
    exact wd_3.2 (by rw [← hp, ← h1, ← h2]; exact k)
  · have h1 := h 1 (by omega)
    have h2 := h 2 (by omega)
    have h3 := h 3 (by omega)
    have k := wd_4.1 g.1
    rw [g.1]
    exact wd_4.2 (by rw [← hp, ← h1, ← h2, ← h3]; exact k)
theorem W_wide {a : List UInt8} {k : Nat} (h0 : 0 < k) (hk : k < W a) : 128 ≤ by' a k := by
  have := W_co a k h0 hk
  unfold Co at this
  omega
/-- A character that is no mark reads as itself. -/
theorem quoted_plain {b : UInt8} {t : List UInt8} (hb : xmk b.toNat = false) :
    xqo (b :: t) ≠ [] ∧ ch1 (xqo (b :: t)) = ch1 (b :: t) ∧ cw (xqo (b :: t)) = cw (b :: t) ∧ (xqo (b :: t)).drop (cw (b :: t)) = xqo ((b :: t).drop (cw (b :: t))) ∧ by' (xqo (b :: t)) 0 = b.toNat := by
  have hq : xqo (b :: t) = b :: xqo t := by rw [xqo_cons, xq1_plain hb]; rfl
  rw [hq]
  have agree : ∀ w, (∀ m, m + 1 < w → 128 ≤ by' t m) → ∀ k, k < w → by' (b :: t) k = by' (b :: xqo t) k := fun w hw k hk => by
    match k, hk with
    | 0, _ => rfl
    | k + 1, hk =>
      rw [by'_succ, by'_succ]
      exact ((xqo_wide (w - 1) t (fun m hm => hw m (by omega))).1 k (by omega)).symm
  have hW : W (b :: xqo t) = W (b :: t) := by
    by_cases h0 : W (b :: t) = 0
    · by_cases h1 : W (b :: xqo t) = 0
      · rw [h0, h1]
      · have h2 : ∀ m, m + 1 < W (b :: xqo t) → 128 ≤ by' t m := fun m hm =>
          xqo_back (W (b :: xqo t) - 1) t (fun m' hm' => by have := W_wide (a := b :: xqo t) (k := m' + 1) (by omega) (by omega); rwa [by'_succ] at this) m (by omega)
        exact (W_pre h1 (fun k hk => (agree _ h2 k hk).symm)).symm
    · exact W_pre h0 (agree _ (fun m hm => by have := W_wide (a := b :: t) (k := m + 1) (by omega) hm; rwa [by'_succ] at this))
  have hcw : cw (b :: xqo t) = cw (b :: t) := by unfold cw; rw [hW]
  have hwide : ∀ m, m + 1 < cw (b :: t) → 128 ≤ by' t m := fun m hm => by
    have h1 : W (b :: t) = cw (b :: t) := cw_big (by omega)
    have := W_wide (a := b :: t) (k := m + 1) (by omega) (by omega)
    rwa [by'_succ] at this
  refine ⟨by simp, ch1_same (by simp) (by simp) hcw (fun k hk => (agree _ hwide k (by omega)).symm), hcw, ?_, rfl⟩
  have hp := cw_pos (b :: t)
  obtain ⟨n, hn⟩ : ∃ n, cw (b :: t) = n + 1 := ⟨cw (b :: t) - 1, by omega⟩
  rw [hn, List.drop_succ_cons, List.drop_succ_cons]
  exact (xqo_wide n t (fun m hm => hwide m (by omega))).2
/-- A mark reads as one that is escaped. -/
theorem quoted_mark {b : UInt8} {t : List UInt8} (hb : xmk b.toNat = true) :
    xqo (b :: t) = 92 :: b :: xqo t ∧ ch1 (b :: t) = ((b.toNat : Int), true) ∧ cw (b :: t) = 1 := by
  have hlow : b.toNat < 128 := by
    rcases xmk_cases b.toNat with ⟨_, g⟩ | ⟨g, _⟩
    · omega
    · rw [hb] at g; exact absurd g (by simp)
  have hW : W (b :: t) = 1 := by unfold W; exact wd_1.2 (by rw [by'_zero]; exact hlow)
  refine ⟨by rw [xqo_cons, xq1_mark hb]; rfl, ?_, by unfold cw; rw [hW]; rfl⟩
  unfold ch1 rune
  rw [if_neg (by simp), hW, if_neg (by decide)]
  rfl
end Go.Proofs.YtodooppapciegaaGreatDoor
namespace Go.Proofs.YtodooppapciegaaGreatDoor
open Go.RowKit Go.Shelf
set_option linter.unusedVariables false
set_option linter.unusedSimpArgs false

theorem bl_rest (s : ByteArray) (p : Nat) : bl (s.extract p s.size) = (bl s).drop p := by
  rw [bl_extract, List.take_of_length_le (by rw [List.length_drop, bl_len]; omega)]
theorem xAt_rest {s : ByteArray} {p m : Nat} {t : List UInt8} (h : (bl s).drop p = t) (ht : t ≠ []) : xAt s p m = decide (by' t 0 = m) := by
  have hlt : p < s.size := by
    rcases Nat.lt_or_ge p s.size with g | g
    · exact g
    · exact absurd (by rw [← h]; exact List.drop_eq_nil_of_le (by rw [bl_len]; exact g)) ht
  unfold xAt
  rw [decide_eq_true hlt, Bool.true_and, ← h, by'_drop, Nat.add_zero]
theorem rest_lt {s : ByteArray} {p : Nat} {t : List UInt8} (h : (bl s).drop p = t) (ht : t ≠ []) : p + t.length = s.size := by
  have h1 := congrArg List.length h
  rw [List.length_drop, bl_len] at h1
  have : 0 < t.length := List.length_pos_iff.2 ht
  omega
/-- A character that is no backslash is read as itself. -/
theorem wr_plain {s : ByteArray} {p : Nat} {t : List UInt8} (h : (bl s).drop p = t) (ht : t ≠ []) (hs : s.size ≤ 65536) (hx : by' t 0 ≠ 92) : WrC s p (.one (ch1 t)) (p + cw t) := by
  have h1 := rest_lt h ht
  have h2 := cw_len t ht
  have h3 := cw_pos t
  refine ⟨by omega, by omega, fun _ => by omega, fun b f v w hr => ?_⟩
  have k := xwritten_plain b s p f v w hr (by omega) (by omega) (by rw [xAt_rest h ht]; exact decide_eq_false hx)
  rw [bl_rest, h] at k
  have hc : cw1 t = cw t := by unfold cw1; rw [if_neg ht]
  rw [hc, decide_eq_true (by omega : 0 < cw t)] at k
  exact k.mono fun e w' ⟨he, hr, hg⟩ => ⟨hr, hg, .nilFunc, (ch1 t).1, (ch1 t).2, he, rfl, rfl⟩
/-- A mark behind a backslash is read as itself. -/
theorem wr_mark {s : ByteArray} {p m : Nat} {t : List UInt8} (h : (bl s).drop p = t) (h2 : 2 ≤ t.length) (hs : s.size ≤ 65536) (h92 : by' t 0 = 92) (hm : by' t 1 = m) (hk : mkB m = true) (hm8 : m < 128)
    (hx : ∀ k ∈ [119, 87, 115, 83, 110, 114, 116, 120, 117], m ≠ k) : WrC s p (.one ((m : Int), true)) (p + 2) := by
  have ht : t ≠ [] := fun e => by rw [e] at h2; simp at h2
  have h1 := rest_lt h ht
  have hb : by' (bl s) (p + 1) = m := by rw [← by'_drop, h]; exact hm
  refine ⟨by omega, by omega, fun _ => by omega, fun b f v w hr => ?_⟩
  have k := xwritten_mark b s p m f v w hr (by omega) (by omega) (by rw [xAt_rest h ht]; exact decide_eq_true h92) hb hk hm8 (fun k hk => by
    unfold xAt
    rw [hb, decide_eq_false (hx k hk), Bool.and_false])
  exact k.mono fun e w' ⟨he, hr, hg⟩ => ⟨hr, hg, .nilFunc, m, true, he, rfl, rfl⟩
/-- Behind an atom: no count. -/
theorem cnt_none {s : ByteArray} {p : Nat} {t : List UInt8} (h : (bl s).drop p = t) (hn : by' t 0 ≠ 42 ∧ by' t 0 ≠ 43 ∧ by' t 0 ≠ 63) (P : Ch → Bool) : cntI s p P = [(2, P)] ∧ cntN s p = p := by
  have hx : ∀ m, by' t 0 ≠ m → xAt s p m = false := fun m hm => by
    by_cases ht : t = []
    · unfold xAt
      have : s.size ≤ p := by
        rw [ht] at h
        have := List.drop_eq_nil_iff.1 h
        rwa [bl_len] at this
      rw [decide_eq_false (by omega), Bool.false_and]
    · rw [xAt_rest h ht]; exact decide_eq_false hm
  have a := hx 42 hn.1
  have b := hx 43 hn.2.1
  have c := hx 63 hn.2.2
  unfold cntI cntN
  rw [a, b, c]
  exact ⟨rfl, rfl⟩
theorem plain_at {s : ByteArray} {p : Nat} {t : List UInt8} (h : (bl s).drop p = t) (ht : t ≠ []) (hn : ∀ m ∈ [94, 36, 42, 43, 63, 46, 91], by' t 0 ≠ m) : Plain s p := by
  have h1 := rest_lt h ht
  have h2 : 0 < t.length := List.length_pos_iff.2 ht
  have hx : ∀ m ∈ [94, 36, 42, 43, 63, 46, 91], xAt s p m = false := fun m hm => by rw [xAt_rest h ht]; exact decide_eq_false (hn m hm)
  exact ⟨by omega, hx 94 (by simp), hx 36 (by simp), hx 42 (by simp), hx 43 (by simp), hx 63 (by simp), hx 46 (by simp), hx 91 (by simp)⟩
theorem xqo_head (t : List UInt8) : by' (xqo t) 0 ≠ 42 ∧ by' (xqo t) 0 ≠ 43 ∧ by' (xqo t) 0 ≠ 63 := by
  cases t with
  | nil => exact ⟨by decide, by decide, by decide⟩
  | cons b t =>
    rw [xqo_cons]
    rcases xmk_cases b.toNat with ⟨h, _⟩ | ⟨h, g⟩
    · rw [xq1_mark h]
      exact ⟨by show (92 : UInt8).toNat ≠ 42; decide, by show (92 : UInt8).toNat ≠ 43; decide, by show (92 : UInt8).toNat ≠ 63; decide⟩
    · rw [xq1_plain h]
      exact ⟨by show b.toNat ≠ 42; omega, by show b.toNat ≠ 43; omega, by show b.toNat ≠ 63; omega⟩
/-- A quoted text reads as its characters, one by one. -/
theorem rd_quoted {s : ByteArray} {f : Bool} (hs : s.size ≤ 65536) : ∀ (k : Nat) (t : List UInt8) (p : Nat), t.length ≤ k → p ≤ s.size → (bl s).drop p = xqo t → Rd s f p (some ((chsF k t).map fun c => (2, oneP f c))) s.size
  | k, [], p, _, hp, h => by
    have hp2 : p = s.size := by
      have := List.drop_eq_nil_iff.1 h
      rw [bl_len] at this
      omega
    have hc : chsF k [] = [] := by cases k <;> rfl
    rw [hc, hp2]
    exact .fin
  | 0, b :: t, p, hk, _, _ => absurd hk (by simp)
  | k + 1, b :: t, p, hk, hp, h => by
    have hne : xqo (b :: t) ≠ [] := by rw [xqo_cons]; unfold xq1; split <;> simp
    have hcc : chsF (k + 1) (b :: t) = ch1 (b :: t) :: chsF k ((b :: t).drop (cw (b :: t))) := by rw [chsF, if_neg (by simp)]
    rw [hcc, List.map_cons]
    rcases xmk_cases b.toNat with ⟨hb, hbs⟩ | ⟨hb, hbs⟩
    · obtain ⟨q1, q2, q3⟩ := quoted_mark (t := t) hb
      rw [q2, q3]
      rw [q1] at h
      have h2 := rest_lt h (by simp)
      simp only [List.length_cons] at h2
      have hd : (bl s).drop (p + 2) = xqo t := by rw [← List.drop_drop, h]; rfl
      have hw : WrC s p (.one ((b.toNat : Int), true)) (p + 2) := wr_mark h (by simp) hs rfl rfl (by unfold mkB; rcases hbs with g | g | g | g | g | g | g | g | g <;> rw [g] <;> rfl) (by omega) (fun k hk => by simp at hk; omega)
      obtain ⟨c1, c2⟩ := cnt_none hd (xqo_head t) (oneP f ((b.toNat : Int), true))
      have ih := rd_quoted (f := f) hs k t (p + 2) (by simpa using hk) (by omega) hd
      have := Rd.one p (p + 2) _ (some ((chsF k t).map fun c => (2, oneP f c))) s.size (plain_at h (by simp) (fun m hm => by show (92 : UInt8).toNat ≠ m; simp at hm; have : (92 : UInt8).toNat = 92 := rfl; omega)) hw (by rw [c2]; exact ih)
      rw [c1] at this
      exact this
    · obtain ⟨q1, q2, q3, q4, q5⟩ := quoted_plain (t := t) hb
      have h2 := rest_lt h hne
      have hl := cw_len _ hne
      rw [q3] at hl
      have hps := cw_pos (b :: t)
      have hw : WrC s p (.one (ch1 (b :: t))) (p + cw (b :: t)) := by
        have := wr_plain h hne hs (by rw [q5]; omega)
        rwa [q2, q3] at this
      have hd : (bl s).drop (p + cw (b :: t)) = xqo ((b :: t).drop (cw (b :: t))) := by rw [← List.drop_drop, h, q4]
      obtain ⟨c1, c2⟩ := cnt_none hd (xqo_head _) (oneP f (ch1 (b :: t)))
      have ih := rd_quoted (f := f) hs k ((b :: t).drop (cw (b :: t))) (p + cw (b :: t)) (by rw [List.length_drop]; simp only [List.length_cons] at hk ⊢; omega) (by omega) hd
      have := Rd.one p (p + cw (b :: t)) _ (some ((chsF k ((b :: t).drop (cw (b :: t)))).map fun c => (2, oneP f c))) s.size (plain_at h hne (fun m hm => by rw [q5]; simp at hm; omega)) hw (by rw [c2]; exact ih)
      rw [c1] at this
      exact this
end Go.Proofs.YtodooppapciegaaGreatDoor
namespace Go.Proofs.YtodooppapciegaaGreatDoor
open Go.RowKit Go.Shelf
set_option linter.unusedVariables false
set_option linter.unusedSimpArgs false

/-- One row of the table, from the place n down: one, none or one, any number, one or more. -/
def nxR (how : Nat) (ft row : Nat → Bool) : Nat → Nat → Bool
  | 0, k => if how = 1 ∨ how = 2 then row k else false
  | d + 1, k =>
    if how = 0 then ft k && row (k + 1)
    else if how = 1 then row k || (ft k && row (k + 1))
    else if how = 2 then row k || (ft k && nxR how ft row d (k + 1))
    else ft k && (row (k + 1) || nxR how ft row d (k + 1))
/-- The rows: from a part on, from a place on. -/
def rowsR (ch : Nat → Ch) (n : Nat) : List (Nat × (Ch → Bool)) → Nat → Bool
  | [], k => decide (k = n)
  | b :: bs, k => nxR b.1 (fun m => b.2 (ch m)) (rowsR ch n bs) (n - k) k
/-- The items of a part. -/
def itsB (b : Nat × (Ch → Bool)) : List Kd := if b.1 = 0 then [(2, b.2)] else if b.1 = 1 then [(3, b.2)] else if b.1 = 2 then [(4, b.2)] else [(2, b.2), (4, b.2)]
section
variable {l : List UInt8} {f : Nat}
theorem nx_lead {i n : Nat} (hv : ∀ m, m < i + n → wdI l f m ≠ 0) (b : Nat × (Ch → Bool)) (r : List Kd) (row : Nat → Bool)
    (hr : ∀ k, k ≤ n → (row k = true ↔ Lead l f r (i + k) (i + n))) : ∀ (d k : Nat), k + d = n → (nxR b.1 (fun m => b.2 (ahI l f (i + m + 1))) row d k = true ↔ Lead l f (itsB b ++ r) (i + k) (i + n))
  | 0, k, hk => by
    obtain rfl : k = n := by omega
    have h1 : ∀ r' : List Kd, ¬ Lead l f r' (i + k + 1) (i + k) := fun r' h => by have := lead_le r' _ _ h; omega
    have h2 := hr k (Nat.le_refl _)
    rw [nxR]
    unfold itsB
    by_cases e0 : b.1 = 0
    · rw [if_neg (by omega), if_pos e0]
      exact ⟨fun h => absurd h (by simp), fun h => absurd (lead_once.1 h).2 (h1 _)⟩
    · by_cases e1 : b.1 = 1
      · rw [if_pos (.inl e1), if_neg e0, if_pos e1, h2]
        exact ⟨fun h => lead_maybe.2 (.inl h), fun h => (lead_maybe.1 h).resolve_right (fun g => h1 _ g.2)⟩
      · by_cases e2 : b.1 = 2
        · rw [if_pos (.inr e2), if_neg e0, if_neg e1, if_pos e2, h2]
          exact ⟨fun h => lead_many.2 (.inl h), fun h => (lead_many.1 h).resolve_right (fun g => h1 _ g.2)⟩
        · rw [if_neg (by omega), if_neg e0, if_neg e1, if_neg e2]
          exact ⟨fun h => absurd h (by simp), fun h => absurd (lead_plus.1 h).2 (fun g => g.elim (h1 _) (h1 _))⟩
  | d + 1, k, hk => by
    have ih := nx_lead hv b r row hr d (k + 1) (by omega)
    have h2 := hr k (by omega)
    have h3 := hr (k + 1) (by omega)
    have hf : ∀ h, fit l f (h, b.2) (i + k) ↔ b.2 (ahI l f (i + k + 1)) = true := fun h => ⟨fun g => g.2, fun g => ⟨hv _ (by omega), g⟩⟩
    rw [show i + (k + 1) = i + k + 1 by omega] at ih h3
    rw [nxR]
    unfold itsB at ih ⊢
    by_cases e0 : b.1 = 0
    · rw [if_pos e0, if_pos e0, Bool.and_eq_true, h3, ← hf 2]
      exact lead_once.symm
    · by_cases e1 : b.1 = 1
      · rw [if_neg e0, if_pos e1, if_neg e0, if_pos e1, Bool.or_eq_true, Bool.and_eq_true, h2, h3, ← hf 3]
        exact lead_maybe.symm
      · rw [if_neg e0, if_neg e1] at ih
        by_cases e2 : b.1 = 2
        · rw [if_pos e2] at ih
          rw [if_neg e0, if_neg e1, if_pos e2, if_neg e0, if_neg e1, if_pos e2, Bool.or_eq_true, Bool.and_eq_true, h2, ih, ← hf 4]
          exact lead_many.symm
        · rw [if_neg e2] at ih
          rw [if_neg e0, if_neg e1, if_neg e2, if_neg e0, if_neg e1, if_neg e2, Bool.and_eq_true, Bool.or_eq_true, h3, ih, ← hf 2]
          exact lead_plus.symm
theorem rows_lead {i n : Nat} (hv : ∀ m, m < i + n → wdI l f m ≠ 0) : ∀ (bs : List (Nat × (Ch → Bool))) (k : Nat), k ≤ n →
    (rowsR (fun m => ahI l f (i + m + 1)) n bs k = true ↔ Lead l f (bs.flatMap itsB) (i + k) (i + n))
  | [], k, hk => by
    rw [rowsR, decide_eq_true_eq]
    have h1 : Lead l f ([].flatMap itsB) (i + k) (i + n) ↔ i + k = i + n := Iff.rfl
    rw [h1]
    omega
  | b :: bs, k, hk => by
    rw [rowsR, List.flatMap_cons]
    exact nx_lead hv b (bs.flatMap itsB) _ (rows_lead hv bs) (n - k) k (by omega)
theorem lead_top {N : Nat} (hN : wdI l f N = 0) : ∀ (r : List Kd) (i j : Nat), i ≤ N → Lead l f r i j → j ≤ N
  | [], i, j, hi, h => by obtain rfl : i = j := h; exact hi
  | x :: r, i, j, hi, h => by
    have up : ∀ m, m ≤ N → fit l f x m → m + 1 ≤ N := fun m hm g => by
      rcases Nat.lt_or_ge m N with k | k
      · exact k
      · obtain rfl : m = N := by omega
        exact absurd hN g.1
    unfold Lead at h
    split at h
    · exact lead_top hN r i j hi h.2
    · split at h
      · exact lead_top hN r i j hi h.2
      · split at h
        · exact lead_top hN r (i + 1) j (up i hi h.1) h.2
        · split at h
          · obtain ⟨k, h1, h2, h3⟩ := h
            refine lead_top hN r k j ?_ h3
            rcases Nat.lt_or_ge N k with g | g
            · have := up N (Nat.le_refl _) (h2 N hi g)
              omega
            · exact g
          · rcases h with h | h
            · exact lead_top hN r i j hi h
            · exact lead_top hN r (i + 1) j (up i hi h.1) h.2
/-- What a search up to the end leaves of plain parts: the first place from which they lead anywhere, and the last one to which they lead from there. -/
theorem piece_rows {bs : List (Nat × (Ch → Bool))} {N : Nat} (hf : f ≤ l.length) (hN : wdI l f N = 0) (hv : ∀ m, m < N → wdI l f m ≠ 0)
    (lead : Nat → Nat → Bool) (hl : ∀ i j, i ≤ j → j ≤ N → lead i j = rowsR (fun m => ahI l f (i + m + 1)) (j - i) bs 0) :
    (∀ i j, i ≤ j → j ≤ N → lead i j = true → (∀ i' j', i' < i → i' ≤ j' → j' ≤ N → lead i' j' = false) → (∀ j', j < j' → j' ≤ N → lead i j' = false) →
      (searchF false (bs.flatMap itsB) l f l.length (run0 (bs.flatMap itsB).length)).fo = true ∧
      (searchF false (bs.flatMap itsB) l f l.length (run0 (bs.flatMap itsB).length)).bf = psI l f i ∧
      (searchF false (bs.flatMap itsB) l f l.length (run0 (bs.flatMap itsB).length)).bt = psI l f j) ∧
    ((∀ i j, i ≤ j → j ≤ N → lead i j = false) → (searchF false (bs.flatMap itsB) l f l.length (run0 (bs.flatMap itsB).length)).fo = false) := by
  have hp := piece_lead (its := bs.flatMap itsB) hf
  generalize searchF false (bs.flatMap itsB) l f l.length (run0 (bs.flatMap itsB).length) = τ at hp ⊢
  have key : ∀ i j, i ≤ j → j ≤ N → (lead i j = true ↔ Lead l f (bs.flatMap itsB) i j) := fun i j hi hj => by
    have h1 := rows_lead (l := l) (f := f) (i := i) (n := j - i) (fun m hm => hv m (by omega)) bs 0 (Nat.zero_le _)
    rw [Nat.add_zero, show i + (j - i) = j by omega] at h1
    rw [hl i j hi hj, h1]
  have inj : ∀ a b, a < b → b ≤ N → psI l f a < psI l f b := fun a b h1 h2 => psI_lt b h1 (fun m hm => hv m (by omega))
  have top : τ.fo = true → ∃ i j, psI l f i = τ.bf ∧ psI l f j = τ.bt ∧ i ≤ j ∧ j ≤ N ∧ lead i j = true := fun h => by
    obtain ⟨i, j, h1, h2, h3, h4⟩ := hp.1 h
    have hi : i ≤ N := by
      rcases Nat.lt_or_ge N i with g | g
      · exact absurd hN (h2 N g)
      · exact g
    have hij := lead_le _ _ _ h3
    have hj := lead_top hN _ i j hi h3
    exact ⟨i, j, h1, h4, hij, hj, (key i j hij hj).2 h3⟩
  refine ⟨fun i j hij hj hlead hfirst hlast => ?_, fun hno => ?_⟩
  · obtain ⟨h1, h2⟩ := hp.2 i j (fun m hm => hv m (by omega)) ((key i j hij hj).1 hlead)
    obtain ⟨i', j', h3, h4, h5, h6, h7⟩ := top h1
    have hii : i' = i := by
      rcases Nat.lt_trichotomy i' i with g | g | g
      · rw [hfirst i' j' g h5 h6] at h7
        exact absurd h7 (by simp)
      · exact g
      · have := inj i i' g (by omega)
        omega
    subst hii
    have hjj : j' = j := by
      rcases Nat.lt_trichotomy j' j with g | g | g
      · have := inj j' j g hj
        omega
      · exact g
      · rw [hlast j' g h6] at h7
        exact absurd h7 (by simp)
    subst hjj
    exact ⟨h1, h3.symm, h4.symm⟩
  · cases hfo : τ.fo with
    | false => rfl
    | true =>
      obtain ⟨i, j, _, _, h5, h6, h7⟩ := top hfo
      rw [hno i j h5 h6] at h7
      exact absurd h7 (by simp)
end
end Go.Proofs.YtodooppapciegaaGreatDoor
namespace Go.Proofs.YtodooppapciegaaGreatDoor
open Go.RowKit
set_option linter.unusedVariables false

/-- A rune, or what stands for one that may not be. -/
def fixZ (z : Int) : Int := if mayB z = true then z else 65533
theorem fixZ_may {z : Int} (h : mayB z = true) : fixZ z = z := by unfold fixZ; rw [if_pos h]
theorem fixZ_not {z : Int} (h : ¬ mayB z = true) : fixZ z = 65533 := by unfold fixZ; rw [if_neg h]
theorem u8_nat (n : Nat) (h : n < 256) : (n.toUInt8).toNat = n := by
  simp [Nat.toUInt8, UInt8.toNat_ofNat']; omega
theorem enc_nat (n : Nat) : Lib.encodeRune (n : Int) = (if n ≤ 127 then [n.toUInt8] else if n ≤ 2047 then [(192 + n / 64).toUInt8, (128 + n % 64).toUInt8] else if n < 55296 ∨ (57343 < n ∧ n ≤ 65535) then [(224 + n / 4096).toUInt8, (128 + n / 64 % 64).toUInt8, (128 + n % 64).toUInt8] else if 65536 ≤ n ∧ n ≤ 1114111 then [(240 + n / 262144).toUInt8, (128 + n / 4096 % 64).toUInt8, (128 + n / 64 % 64).toUInt8, (128 + n % 64).toUInt8] else [239, 191, 189]) := by
  unfold Lib.encodeRune
  by_cases h1 : n ≤ 127
  · rw [if_pos h1, Lib.encodeRuneZ_one (by omega) (by omega)]; simp
  · rw [if_neg h1]
    by_cases h2 : n ≤ 2047
    · rw [if_pos h2, Lib.encodeRuneZ_two (by omega) (by omega)]
      have e1 : (192 + (n : Int) / 64).toNat = 192 + n / 64 := by omega
      have e2 : (128 + (n : Int) % 64).toNat = 128 + n % 64 := by omega
      simp only [List.map_cons, List.map_nil, e1, e2]
    · rw [if_neg h2]
      by_cases h3 : n < 55296 ∨ (57343 < n ∧ n ≤ 65535)
      · rw [if_pos h3, Lib.encodeRuneZ_three (by omega)]
        have e1 : (224 + (n : Int) / 4096).toNat = 224 + n / 4096 := by omega
        have e2 : (128 + (n : Int) / 64 % 64).toNat = 128 + n / 64 % 64 := by omega
        have e3 : (128 + (n : Int) % 64).toNat = 128 + n % 64 := by omega
        simp only [List.map_cons, List.map_nil, e1, e2, e3]
      · rw [if_neg h3]
        by_cases h4 : 65536 ≤ n ∧ n ≤ 1114111
        · rw [if_pos h4, Lib.encodeRuneZ_four (by omega) (by omega)]
          have e1 : (240 + (n : Int) / 262144).toNat = 240 + n / 262144 := by omega
          have e2 : (128 + (n : Int) / 4096 % 64).toNat = 128 + n / 4096 % 64 := by omega
          have e3 : (128 + (n : Int) / 64 % 64).toNat = 128 + n / 64 % 64 := by omega
          have e4 : (128 + (n : Int) % 64).toNat = 128 + n % 64 := by omega
          simp only [List.map_cons, List.map_nil, e1, e2, e3, e4]
        · rw [if_neg h4, Lib.encodeRuneZ_bad (by omega)]; rfl
theorem enc_bad {z : Int} (h : ¬ mayB z = true) : Lib.encodeRune z = [239, 191, 189] := by
  rw [mayB_iff] at h
  unfold Lib.encodeRune
  rw [Lib.encodeRuneZ_bad (by omega)]; rfl
theorem enc_fix (z : Int) : Lib.encodeRune (fixZ z) = Lib.encodeRune z := by
  by_cases h : mayB z = true
  · rw [fixZ_may h]
  · rw [fixZ_not h, enc_bad h, show (65533 : Int) = ((65533 : Nat) : Int) from rfl, enc_nat]; rfl
theorem by0 (a : UInt8) (l : List UInt8) : by' (a :: l) 0 = a.toNat := rfl
theorem byS (a : UInt8) (l : List UInt8) (k : Nat) : by' (a :: l) (k + 1) = by' l k := rfl
/-- What is encoded is decoded, whatever stands behind. -/
theorem dec_enc_nat (n : Nat) (h : n ≤ 1114111 ∧ (n < 55296 ∨ 57343 < n)) (rest : List UInt8) : W (Lib.encodeRune (n : Int) ++ rest) = (Lib.encodeRune (n : Int)).length ∧ rune (Lib.encodeRune (n : Int) ++ rest) = n := by
  rw [enc_nat]
  by_cases h1 : n ≤ 127
  · rw [if_pos h1]
    have b0 : by' ([n.toUInt8] ++ rest) 0 = n := u8_nat n (by omega)
    have hw : W ([n.toUInt8] ++ rest) = 1 := by unfold W; rw [wd_1, b0]; omega
    refine ⟨hw, ?_⟩
    unfold rune
    rw [hw, b0]; rfl
  · rw [if_neg h1]
    by_cases h2 : n ≤ 2047
    · rw [if_pos h2]
      generalize hl : [(192 + n / 64).toUInt8, (128 + n % 64).toUInt8] ++ rest = l
      have b0 : by' l 0 = 192 + n / 64 := by rw [← hl]; exact u8_nat _ (by omega)
      have b1 : by' l 1 = 128 + n % 64 := by rw [← hl]; exact u8_nat _ (by omega)
      have hw : W l = 2 := by unfold W; rw [wd_2, need2, b0, b1]; omega
      refine ⟨hw, ?_⟩
      unfold rune
      rw [hw, b0, b1]
      simp only [num]
      simp
      omega
    · rw [if_neg h2]
      by_cases h3 : n < 55296 ∨ (57343 < n ∧ n ≤ 65535)
      · rw [if_pos h3]
        generalize hl : [(224 + n / 4096).toUInt8, (128 + n / 64 % 64).toUInt8, (128 + n % 64).toUInt8] ++ rest = l
        have b0 : by' l 0 = 224 + n / 4096 := by rw [← hl]; exact u8_nat _ (by omega)
        have b1 : by' l 1 = 128 + n / 64 % 64 := by rw [← hl]; exact u8_nat _ (by omega)
        have b2 : by' l 2 = 128 + n % 64 := by rw [← hl]; exact u8_nat _ (by omega)
        have hw : W l = 3 := by unfold W; rw [wd_3, need3, b0, b1, b2]; omega
        refine ⟨hw, ?_⟩
        unfold rune
        rw [hw, b0, b1, b2]
        simp only [num]
        simp
        omega
      · rw [if_neg h3]
        have h4 : 65536 ≤ n ∧ n ≤ 1114111 := by omega
        rw [if_pos h4]
        generalize hl : [(240 + n / 262144).toUInt8, (128 + n / 4096 % 64).toUInt8, (128 + n / 64 % 64).toUInt8, (128 + n % 64).toUInt8] ++ rest = l
        have b0 : by' l 0 = 240 + n / 262144 := by rw [← hl]; exact u8_nat _ (by omega)
        have b1 : by' l 1 = 128 + n / 4096 % 64 := by rw [← hl]; exact u8_nat _ (by omega)
        have b2 : by' l 2 = 128 + n / 64 % 64 := by rw [← hl]; exact u8_nat _ (by omega)
        have b3 : by' l 3 = 128 + n % 64 := by rw [← hl]; exact u8_nat _ (by omega)
        have hw : W l = 4 := by unfold W; rw [wd_4, need4, b0, b1, b2, b3]; omega
        refine ⟨hw, ?_⟩
        unfold rune
        rw [hw, b0, b1, b2, b3]
        simp only [num]
        simp
        omega
theorem dec_enc (z : Int) (rest : List UInt8) : W (Lib.encodeRune z ++ rest) = (Lib.encodeRune z).length ∧ (rune (Lib.encodeRune z ++ rest) : Int) = fixZ z := by
  rw [← enc_fix z]
  have hm : 0 ≤ fixZ z ∧ fixZ z ≤ 1114111 ∧ (fixZ z < 55296 ∨ 57343 < fixZ z) := by
    by_cases h : mayB z = true
    · rw [fixZ_may h]; exact mayB_iff.1 h
    · rw [fixZ_not h]; omega
  generalize fixZ z = y at *
  obtain ⟨n, rfl⟩ : ∃ n : Nat, y = (n : Int) := ⟨y.toNat, by omega⟩
  obtain ⟨h1, h2⟩ := dec_enc_nat n (by omega) rest
  exact ⟨h1, by rw [h2]⟩
theorem enc_dec (l : List UInt8) (hl : l ≠ []) (h : W l ≠ 0) : Lib.encodeRune (rune l : Int) = l.take (W l) := by
  have hlen := W_len l hl
  have hu : ∀ (a : UInt8) (n : Nat), n = a.toNat → n.toUInt8 = a := fun a n e => by subst e; exact UInt8.ofNat_toNat
  have hwc := wd_cases (by' l 0) (by' l 1) (by' l 2) (by' l 3)
  have h256 : ∀ k, by' l k < 256 := by'_lt l
  rw [enc_nat]
  match l, hl, hlen, h with
  | [], hl, _, _ => exact absurd rfl hl
  | a :: l1, hl, hlen, h =>
  by_cases w1 : W (a :: l1) = 1
  · have hr := rune_1 w1
    have e0 : rune (a :: l1) = a.toNat := by unfold rune; rw [w1]; rfl
    rw [if_pos (by omega), w1, hu a _ e0]; rfl
  · match l1, hlen, h, w1 with
    | [], hlen, h, w1 => exact absurd hlen (by simp; omega)
    | b :: l2, hlen, h, w1 =>
    by_cases w2 : W (a :: b :: l2) = 2
    · have hn : need a.toNat b.toNat = 2 := wd_2.1 w2
      rw [need2] at hn
      have e0 : rune (a :: b :: l2) = a.toNat % 32 * 64 + b.toNat % 64 := by unfold rune; rw [w2]; rfl
      rw [if_neg (by omega), if_pos (by omega), w2, hu a _ (by omega), hu b _ (by omega)]; rfl
    · match l2, hlen, h, w1, w2 with
      | [], hlen, h, w1, w2 => exact absurd hlen (by simp; omega)
      | c :: l3, hlen, h, w1, w2 =>
      by_cases w3 : W (a :: b :: c :: l3) = 3
      · have hn : need a.toNat b.toNat = 3 ∧ 128 ≤ c.toNat ∧ c.toNat ≤ 191 := wd_3.1 w3
        rw [need3] at hn
        have e0 : rune (a :: b :: c :: l3) = a.toNat % 16 * 4096 + b.toNat % 64 * 64 + c.toNat % 64 := by unfold rune; rw [w3]; rfl
        rw [if_neg (by omega), if_neg (by omega), if_pos (by omega), w3, hu a _ (by omega), hu b _ (by omega), hu c _ (by omega)]; rfl
      · match l3, hlen, h, w1, w2, w3 with
        | [], hlen, h, w1, w2, w3 => exact absurd hlen (by simp; omega)
        | d :: l4, hlen, h, w1, w2, w3 =>
        have h4 := W_le4 (a :: b :: c :: d :: l4)
        have w4 : W (a :: b :: c :: d :: l4) = 4 := by omega
        have hn : need a.toNat b.toNat = 4 ∧ 128 ≤ c.toNat ∧ c.toNat ≤ 191 ∧ 128 ≤ d.toNat ∧ d.toNat ≤ 191 := wd_4.1 w4
        rw [need4] at hn
        have e0 : rune (a :: b :: c :: d :: l4) = a.toNat % 8 * 262144 + b.toNat % 64 * 4096 + c.toNat % 64 * 64 + d.toNat % 64 := by unfold rune; rw [w4]; rfl
        rw [if_neg (by omega), if_neg (by omega), if_neg (by omega), if_pos (by omega), w4, hu a _ (by omega), hu b _ (by omega), hu c _ (by omega), hu d _ (by omega)]; rfl
end Go.Proofs.YtodooppapciegaaGreatDoor
namespace Go.Proofs.YtodooppapciegaaGreatDoor
open Go.RowKit Go.Shelf
set_option linter.unusedVariables false
set_option linter.unusedSimpArgs false

/-- A part: a rune, or any one; how many. -/
abbrev Bt := Int × Bool × Nat
def fitP (b : Bt) : Ch → Bool := if b.2.1 = true then fun c => !endP c else oneP false (b.1, true)
def kB (b : Bt) : Nat × (Ch → Bool) := (b.2.2, fitP b)
def cB : Nat → List UInt8
  | 0 => []
  | 1 => [63]
  | 2 => [42]
  | _ => [43]
def atB (b : Bt) : List UInt8 := if b.2.1 = true then [46] else xqo (Lib.encodeRune b.1)
def tB (b : Bt) : List UInt8 := atB b ++ cB b.2.2
def BtOk (b : Bt) : Prop := mayB b.1 = true ∧ b.2.2 < 4
/-- What stands behind an atom and its count is no count. -/
def NoC (t : List UInt8) : Prop := by' t 0 ≠ 42 ∧ by' t 0 ≠ 43 ∧ by' t 0 ≠ 63
theorem cnt_all {s : ByteArray} {p how : Nat} {t : List UInt8} (h : (bl s).drop p = cB how ++ t) (hh : how < 4) (hn : NoC t) (P : Ch → Bool) : cntI s p P = itsB (how, P) ∧ cntN s p = p + (cB how).length := by
  match how, hh with
  | 0, _ => exact cnt_none h hn P
  | 1, _ =>
    have x42 : xAt s p 42 = false := by rw [xAt_rest h (by simp [cB])]; rfl
    have x43 : xAt s p 43 = false := by rw [xAt_rest h (by simp [cB])]; rfl
    have x63 : xAt s p 63 = true := by rw [xAt_rest h (by simp [cB])]; rfl
    unfold cntI cntN
    rw [x42, x43, x63]
    exact ⟨rfl, rfl⟩
  | 2, _ =>
    have x42 : xAt s p 42 = true := by rw [xAt_rest h (by simp [cB])]; rfl
    unfold cntI cntN
    rw [x42]
    exact ⟨rfl, rfl⟩
  | 3, _ =>
    have x42 : xAt s p 42 = false := by rw [xAt_rest h (by simp [cB])]; rfl
    have x43 : xAt s p 43 = true := by rw [xAt_rest h (by simp [cB])]; rfl
    unfold cntI cntN
    rw [x42, x43]
    exact ⟨rfl, rfl⟩
theorem xqo_nomark : ∀ (l : List UInt8), (∀ b ∈ l, xmk b.toNat = false) → xqo l = l
  | [], _ => rfl
  | b :: t, h => by
    rw [xqo_cons, xq1_plain (h b (List.mem_cons_self ..)), xqo_nomark t (fun c hc => h c (List.mem_cons_of_mem _ hc))]
    rfl
/-- A rune that may be, as bytes: one mark, or bytes that are none. -/
theorem enc_forms {z : Int} (h : mayB z = true) : ∃ n : Nat, z = (n : Int) ∧ ((xmk n = true ∧ n < 128 ∧ Lib.encodeRune z = [n.toUInt8]) ∨ ((∀ b ∈ Lib.encodeRune z, xmk b.toNat = false) ∧ ∃ b t, Lib.encodeRune z = b :: t)) := by
  have hm := mayB_iff.1 h
  obtain ⟨n, rfl⟩ := Int.eq_ofNat_of_zero_le hm.1
  refine ⟨n, rfl, ?_⟩
  rw [enc_nat]
  by_cases h1 : n ≤ 127
  · rw [if_pos h1]
    cases hk : xmk n with
    | true => exact .inl ⟨rfl, by omega, rfl⟩
    | false =>
      refine .inr ⟨fun b hb => ?_, _, _, rfl⟩
      obtain rfl := List.mem_singleton.1 hb
      rw [u8_nat n (by omega)]; exact hk
  · rw [if_neg h1]
    right
    by_cases h2 : n ≤ 2047
    · rw [if_pos h2]
      refine ⟨fun b hb => ?_, _, _, rfl⟩
      simp only [List.mem_cons, List.not_mem_nil, or_false] at hb
      rcases hb with rfl | rfl <;> (rw [u8_nat _ (by omega)]; exact xmk_low (by omega))
    · rw [if_neg h2]
      by_cases h3 : n < 55296 ∨ (57343 < n ∧ n ≤ 65535)
      · rw [if_pos h3]
        refine ⟨fun b hb => ?_, _, _, rfl⟩
        simp only [List.mem_cons, List.not_mem_nil, or_false] at hb
        rcases hb with rfl | rfl | rfl <;> (rw [u8_nat _ (by omega)]; exact xmk_low (by omega))
      · rw [if_neg h3]
        by_cases h4 : 65536 ≤ n ∧ n ≤ 1114111
        · rw [if_pos h4]
          refine ⟨fun b hb => ?_, _, _, rfl⟩
          simp only [List.mem_cons, List.not_mem_nil, or_false] at hb
          rcases hb with rfl | rfl | rfl | rfl <;> (rw [u8_nat _ (by omega)]; exact xmk_low (by omega))
        · rw [if_neg h4]
          refine ⟨fun b hb => ?_, _, _, rfl⟩
          simp only [List.mem_cons, List.not_mem_nil, or_false] at hb
          rcases hb with rfl | rfl | rfl <;> decide
theorem atB_len {b : Bt} (h : mayB b.1 = true) : (atB b).length ≤ 4 := by
  unfold atB
  split
  · simp
  · obtain ⟨n, hn, g | g⟩ := enc_forms h
    · rw [g.2.2]
      have := xqo_len [n.toUInt8]
      rw [List.length_singleton] at this
      omega
    · rw [xqo_nomark _ g.1]
      have := Lib.runeCells_le b.1
      rw [Lib.runeCells_length] at this
      exact this.2
theorem tB_len {b : Bt} (h : mayB b.1 = true) : (tB b).length ≤ 5 := by
  unfold tB
  have := atB_len h
  rw [List.length_append]
  have : (cB b.2.2).length ≤ 1 := by unfold cB; split <;> simp
  omega
theorem ch1_enc {z : Int} (h : mayB z = true) (rest : List UInt8) : ch1 (Lib.encodeRune z ++ rest) = (z, true) ∧ cw (Lib.encodeRune z ++ rest) = (Lib.encodeRune z).length := by
  obtain ⟨h1, h2⟩ := dec_enc z rest
  rw [fixZ_may h] at h2
  have hp : 0 < (Lib.encodeRune z).length := by
    obtain ⟨n, hn, g | ⟨_, b, t, g⟩⟩ := enc_forms h
    · rw [g.2.2]; simp
    · rw [g]; simp
  have hne : Lib.encodeRune z ++ rest ≠ [] := fun e => by
    have := congrArg List.length e
    rw [List.length_append, List.length_nil] at this
    omega
  have hw : W (Lib.encodeRune z ++ rest) ≠ 0 := by omega
  refine ⟨?_, by unfold cw; rw [if_neg hw, h1]⟩
  unfold ch1
  rw [if_neg hne, if_neg hw, h2]
theorem tB_head (b : Bt) (h : BtOk b) (t : List UInt8) : NoC (tB b ++ t) := by
  have key : NoC (atB b ++ (cB b.2.2 ++ t)) := by
    unfold atB
    split
    · exact ⟨by show (46 : UInt8).toNat ≠ 42; decide, by show (46 : UInt8).toNat ≠ 43; decide, by show (46 : UInt8).toNat ≠ 63; decide⟩
    · obtain ⟨n, hn, g | ⟨g, c, u, hc⟩⟩ := enc_forms h.1
      · rw [g.2.2]
        have : xqo [n.toUInt8] = [92, n.toUInt8] := by
          rw [xqo_cons, xq1_mark (by rw [u8_nat n (by omega)]; exact g.1)]
          rfl
        rw [this]
        exact ⟨by show (92 : UInt8).toNat ≠ 42; decide, by show (92 : UInt8).toNat ≠ 43; decide, by show (92 : UInt8).toNat ≠ 63; decide⟩
      · rw [xqo_nomark _ g]
        have hm := g c (by rw [hc]; exact List.mem_cons_self ..)
        rw [hc]
        rcases xmk_cases c.toNat with ⟨k, _⟩ | ⟨_, k⟩
        · rw [hm] at k; exact absurd k (by simp)
        · exact ⟨by show c.toNat ≠ 42; omega, by show c.toNat ≠ 43; omega, by show c.toNat ≠ 63; omega⟩
  unfold tB
  rwa [List.append_assoc]
theorem parts_head (bs : List Bt) (h : ∀ b ∈ bs, BtOk b) : NoC (bs.flatMap tB) := by
  cases bs with
  | nil => exact ⟨by decide, by decide, by decide⟩
  | cons b bs => rw [List.flatMap_cons]; exact tB_head b (h b (List.mem_cons_self ..)) _
/-- A pattern of plain parts reads as their items. -/
theorem rd_parts {s : ByteArray} (hs : s.size ≤ 65536) : ∀ (bs : List Bt) (p : Nat), (∀ b ∈ bs, BtOk b) → p ≤ s.size → (bl s).drop p = bs.flatMap tB → Rd s false p (some ((bs.map kB).flatMap itsB)) s.size
  | [], p, _, hp, h => by
    have hp2 : p = s.size := by
      have := List.drop_eq_nil_iff.1 h
      rw [bl_len] at this
      omega
    rw [hp2]
    exact .fin
  | b :: bs, p, hok, hp, h => by
    have hb := hok b (List.mem_cons_self ..)
    have hbs : ∀ c ∈ bs, BtOk c := fun c hc => hok c (List.mem_cons_of_mem _ hc)
    have hhead := parts_head bs hbs
    rw [List.flatMap_cons] at h
    have ht : tB b = atB b ++ cB b.2.2 := rfl
    rw [ht, List.append_assoc] at h
    rw [List.map_cons, List.flatMap_cons]
    have step : ∀ (p' : Nat) (P : Ch → Bool), (bl s).drop p' = cB b.2.2 ++ bs.flatMap tB → p' ≤ s.size → P = fitP b → cntI s p' P = itsB (kB b) ∧ Rd s false (cntN s p') (some ((bs.map kB).flatMap itsB)) s.size := fun p' P hd hp' hP => by
      obtain ⟨c1, c2⟩ := cnt_all hd hb.2 hhead P
      refine ⟨by rw [c1, hP]; rfl, ?_⟩
      rw [c2]
      have hle := (cntN_le hp').2
      rw [c2] at hle
      refine rd_parts hs bs _ hbs hle ?_
      rw [← List.drop_drop, hd, List.drop_left]
    by_cases ha : b.2.1 = true
    · have e1 : atB b = [46] := by unfold atB; rw [if_pos ha]
      have eP : fitP b = fun c => !endP c := by unfold fitP; rw [if_pos ha]
      rw [e1] at h
      have h2 := rest_lt h (by simp)
      simp at h2
      have hd : (bl s).drop (p + 1) = cB b.2.2 ++ bs.flatMap tB := by rw [← List.drop_drop, h]; rfl
      obtain ⟨k1, k2⟩ := step (p + 1) _ hd (by omega) eP.symm
      have x46 : xAt s p 46 = true := by rw [xAt_rest h (by simp)]; rfl
      have := Rd.dot (f := false) p _ _ x46 k2
      rw [k1] at this
      exact this
    · have e1 : atB b = xqo (Lib.encodeRune b.1) := by unfold atB; rw [if_neg ha]
      have eP : fitP b = oneP false (b.1, true) := by unfold fitP; rw [if_neg ha]
      rw [e1] at h
      obtain ⟨n, hn, ⟨g1, g2, g3⟩ | ⟨g, c, u, hc⟩⟩ := enc_forms hb.1
      · rw [g3, show xqo [n.toUInt8] = [92, n.toUInt8] by rw [xqo_cons, xq1_mark (by rw [u8_nat n (by omega)]; exact g1)]; rfl] at h
        have h2 := rest_lt h (by simp)
        simp at h2
        have hd : (bl s).drop (p + 2) = cB b.2.2 ++ bs.flatMap tB := by rw [← List.drop_drop, h]; rfl
        have hbs2 : n = 46 ∨ n = 91 ∨ n = 93 ∨ n = 42 ∨ n = 43 ∨ n = 63 ∨ n = 94 ∨ n = 36 ∨ n = 92 := by
          rcases xmk_cases n with ⟨_, k⟩ | ⟨k, _⟩
          · exact k
          · rw [g1] at k; exact absurd k (by simp)
        have hw : WrC s p (.one ((n : Int), true)) (p + 2) := wr_mark h (by simp) hs rfl (by show (n.toUInt8).toNat = n; exact u8_nat n (by omega)) (by unfold mkB; rcases hbs2 with g | g | g | g | g | g | g | g | g <;> rw [g] <;> rfl) g2 (fun k hk => by simp at hk; omega)
        obtain ⟨k1, k2⟩ := step (p + 2) (oneP false ((n : Int), true)) hd (by omega) (by rw [eP, hn])
        have := Rd.one (f := false) p (p + 2) _ _ _ (plain_at h (by simp) (fun m hm => by show (92 : UInt8).toNat ≠ m; simp at hm; have : (92 : UInt8).toNat = 92 := rfl; omega)) hw k2
        rw [k1] at this
        exact this
      · rw [xqo_nomark _ g] at h
        obtain ⟨q1, q2⟩ := ch1_enc hb.1 (cB b.2.2 ++ bs.flatMap tB)
        have hne : Lib.encodeRune b.1 ++ (cB b.2.2 ++ bs.flatMap tB) ≠ [] := by rw [hc]; simp
        have h2 := rest_lt h hne
        rw [List.length_append] at h2
        have hcm : by' (Lib.encodeRune b.1 ++ (cB b.2.2 ++ bs.flatMap tB)) 0 = c.toNat := by rw [hc]; rfl
        have hk : c.toNat ≠ 46 ∧ c.toNat ≠ 91 ∧ c.toNat ≠ 93 ∧ c.toNat ≠ 42 ∧ c.toNat ≠ 43 ∧ c.toNat ≠ 63 ∧ c.toNat ≠ 94 ∧ c.toNat ≠ 36 ∧ c.toNat ≠ 92 := by
          have hm := g c (by rw [hc]; exact List.mem_cons_self ..)
          rcases xmk_cases c.toNat with ⟨k, _⟩ | ⟨_, k⟩
          · rw [hm] at k; exact absurd k (by simp)
          · exact k
        have hw := wr_plain h hne hs (by rw [hcm]; omega)
        rw [q1, q2] at hw
        have hd : (bl s).drop (p + (Lib.encodeRune b.1).length) = cB b.2.2 ++ bs.flatMap tB := by rw [← List.drop_drop, h, List.drop_left]
        obtain ⟨k1, k2⟩ := step (p + (Lib.encodeRune b.1).length) (oneP false (b.1, true)) hd (by omega) eP.symm
        have := Rd.one (f := false) p _ _ _ _ (plain_at h hne (fun m hm => by rw [hcm]; simp at hm; omega)) hw k2
        rw [k1] at this
        exact this
end Go.Proofs.YtodooppapciegaaGreatDoor
namespace Go.Proofs.YtodooppapciegaaGreatDoor
open Go.RowKit
set_option linter.unusedVariables false

def closesV (p q : List UInt8) : Nat := if p = [] ∨ 4 ≤ p.length then 0 else cw (p ++ q.take 3) - p.length
def properV (p : List UInt8) : Bool := decide (0 < closesV p [128, 128, 128]) || decide (0 < closesV p [191, 191, 191])
def pendF (l : List UInt8) : Nat → Nat → Nat
  | 0, _ => 0
  | f + 1, n => if n ≤ l.length then (if properV (l.drop (l.length - n)) = true then n else pendF l f (n + 1)) else 0
def pendingV (l : List UInt8) : Nat := pendF l 3 1

theorem bl_append (a b : ByteArray) : bl (a ++ b) = bl a ++ bl b := by
  unfold bl
  rw [ByteArray.data_append]; simp

end Go.Proofs.YtodooppapciegaaGreatDoor
namespace Go.Proofs.YtodooppapciegaaGreatDoor
open Go.RowKit
set_option linter.unusedVariables false

/-- What a slice of runes holds, up to its length. -/
def SlU (w : World) (a : Option Addr) (zs : List Int) : Prop :=
  zs = [] ∨ ∃ b off, a = some ⟨b, off, none⟩ ∧ b < w.heap.size ∧ ∀ (i : Nat) (x : Int), zs[i]? = some x → w.cell? ⟨b, off + i, none⟩ = some (.int .i32 x)
theorem SlU.below {w w' : World} {a : Option Addr} {zs : List Int} (h : SlU w a zs) (hb : Below w.heap.size w w') : SlU w' a zs := by
  rcases h with h | ⟨b, off, ha, hl, hs⟩
  · exact .inl h
  · exact .inr ⟨b, off, ha, Nat.lt_of_lt_of_le hl hb.size, fun i x hx => (hb.cell (p := ⟨b, off + i, none⟩) hl).trans (hs i x hx)⟩

def s1 : ByteArray := { data := #[195, 169, 65] }
def s2 : ByteArray := { data := #[65, 195, 169] }
def s3 : ByteArray := { data := #[195, 169, 65, 255] }
def s4 : ByteArray := { data := #[65, 195] }
def s5 : ByteArray := { data := #[195] }
def s6 : ByteArray := { data := #[169] }

theorem aw1 (w : World) : Calls Tryz.prog 40 #[.string { data := #[195, 169, 65] }] w fun e w' => e = .returned (.tuple #[.int .i32 233, .int .i64 2, .bool true]) ∧ Below w.heap.size w w' := by
  have h := first_any s1 w (by decide)
  have e : firstV (bl s1) = (233, 2, true) := by decide +kernel
  rw [e] at h
  exact h
theorem aw2 (w : World) : Calls Tryz.prog 41 #[.string { data := #[65, 195, 169] }] w fun e w' => e = .returned (.tuple #[.int .i32 233, .int .i64 2, .bool true]) ∧ Below w.heap.size w w' := by
  have h := last_any s2 w (by decide)
  have e : lastV (bl s2) = (233, 2, true) := by decide +kernel
  rw [e] at h
  exact h
end Go.Proofs.YtodooppapciegaaGreatDoor
namespace Go.Proofs.YtodooppapciegaaGreatDoor
open Go.RowKit
set_option linter.unusedVariables false

def May' (n : Int) : Prop := 0 ≤ n ∧ n ≤ 1114111 ∧ (n < 55296 ∨ 57343 < n)
theorem may_any (n : Int) (w : World) (h1 : -2147483648 ≤ n) (h2 : n ≤ 2147483647) : Calls Tryz.prog 61 #[.int .i32 n] w fun e w' => e = .returned (.bool (mayB n)) ∧ w' = w := by
  by_cases a1 : 0 ≤ n
  · by_cases a2 : n ≤ 1114111
    · by_cases a3 : n < 55296
      · rw [mayB_iff.2 ⟨a1, a2, .inl a3⟩]
        go_enter Tryz.func61, Tryz.ntmps61
        go_wp2
        go_ret
        exact ⟨rfl, rfl⟩
      · have a3' : 55296 ≤ n := by omega
        by_cases a4 : 57343 < n
        · rw [mayB_iff.2 ⟨a1, a2, .inr a4⟩]
          go_enter Tryz.func61, Tryz.ntmps61
          go_wp2
          go_ret
          exact ⟨rfl, rfl⟩
        · have hm : mayB n = false := by unfold mayB; exact decide_eq_false (by omega)
          have a4' : n ≤ 57343 := by omega
          rw [hm]; clear hm
          go_enter Tryz.func61, Tryz.ntmps61
          go_wp2
          go_ret
          exact ⟨rfl, rfl⟩
    · have hm : mayB n = false := by unfold mayB; exact decide_eq_false (by omega)
      have a2' : 1114111 < n := by omega
      rw [hm]; clear hm
      go_enter Tryz.func61, Tryz.ntmps61
      go_wp2
      go_ret
      exact ⟨rfl, rfl⟩
  · have hm : mayB n = false := by unfold mayB; exact decide_eq_false (by omega)
    have a1' : n < 0 := by omega
    rw [hm]; clear hm
    go_enter Tryz.func61, Tryz.ntmps61
    go_wp2
    go_ret
    exact ⟨rfl, rfl⟩

def B8 (x : Nat) : Value := .int .u8 (x : Int)
/-- What a slice of bytes holds. -/
def SlB (w : World) (a : Option Addr) (bs : List Nat) : Prop :=
  bs = [] ∨ ∃ b off, a = some ⟨b, off, none⟩ ∧ b < w.heap.size ∧ ∀ (i x : Nat), bs[i]? = some x → w.cell? ⟨b, off + i, none⟩ = some (.int .u8 (x : Int))
theorem SlB.below {w w' : World} {a : Option Addr} {bs : List Nat} (h : SlB w a bs) (hb : Below w.heap.size w w') : SlB w' a bs := by
  rcases h with h | ⟨b, off, ha, hl, hs⟩
  · exact .inl h
  · exact .inr ⟨b, off, ha, Nat.lt_of_lt_of_le hl hb.size, fun i x hx => (hb.cell (p := ⟨b, off + i, none⟩) hl).trans (hs i x hx)⟩

set_option maxHeartbeats 400000 in
theorem seq_w1 (z : Int) (w : World) (h0 : 0 ≤ z) (h1 : z < 128) : Calls Tryz.prog 63 #[.int .i32 z] w fun e w' =>
    e = .returned (.slice (some ⟨w.heap.size, 0, none⟩) 1 1) ∧ w' = w.alloc (.cells #[.int .u8 z] 5) := by
  go_enter Tryz.func63, Tryz.ntmps63
  go_wp2
  go_ret
  exact ⟨rfl, rfl⟩
set_option maxHeartbeats 400000 in
theorem seq_w2 (z : Int) (w : World) (h0 : 128 ≤ z) (h1 : z < 2048) : Calls Tryz.prog 63 #[.int .i32 z] w fun e w' =>
    e = .returned (.slice (some ⟨w.heap.size, 0, none⟩) 2 2) ∧ w' = w.alloc (.cells #[.int .u8 (192 + z / 64), .int .u8 (128 + z % 64)] 5) := by
  go_enter Tryz.func63, Tryz.ntmps63
  go_wp2
  go_ret
  exact ⟨rfl, rfl⟩
set_option maxHeartbeats 400000 in
theorem seq_w3 (z : Int) (w : World) (h0 : 2048 ≤ z) (h1 : z < 65536) : Calls Tryz.prog 63 #[.int .i32 z] w fun e w' =>
    e = .returned (.slice (some ⟨w.heap.size, 0, none⟩) 3 3) ∧ w' = w.alloc (.cells #[.int .u8 (224 + z / 4096), .int .u8 (128 + z / 64 % 64), .int .u8 (128 + z % 64)] 5) := by
  go_enter Tryz.func63, Tryz.ntmps63
  go_wp2
  go_ret
  exact ⟨rfl, rfl⟩
set_option maxHeartbeats 400000 in
theorem seq_w4 (z : Int) (w : World) (h0 : 65536 ≤ z) (h1 : z ≤ 1114111) : Calls Tryz.prog 63 #[.int .i32 z] w fun e w' =>
    e = .returned (.slice (some ⟨w.heap.size, 0, none⟩) 4 4) ∧ w' = w.alloc (.cells #[.int .u8 (240 + z / 262144), .int .u8 (128 + z / 4096 % 64), .int .u8 (128 + z / 64 % 64), .int .u8 (128 + z % 64)] 5) := by
  go_enter Tryz.func63, Tryz.ntmps63
  go_wp2
  go_ret
  exact ⟨rfl, rfl⟩

theorem seq_any (n : Nat) (w : World) (hn : n ≤ 1114111) : Calls Tryz.prog 63 #[.int .i32 n] w fun e w' =>
    e = .returned (.slice (some ⟨w.heap.size, 0, none⟩) (seqV n).length (seqV n).length) ∧ w' = w.alloc (.cells ((seqV n).map B8).toArray 5) := by
  by_cases a1 : n < 128
  · have hs : seqV n = [n] := by unfold seqV; rw [if_pos a1]
    rw [hs]
    exact seq_w1 n w (by omega) (by omega)
  · by_cases a2 : n < 2048
    · have hs : seqV n = [192 + n / 64, 128 + n % 64] := by unfold seqV; rw [if_neg a1, if_pos a2]
      rw [hs]
      exact seq_w2 n w (by omega) (by omega)
    · by_cases a3 : n < 65536
      · have hs : seqV n = [224 + n / 4096, 128 + n / 64 % 64, 128 + n % 64] := by unfold seqV; rw [if_neg a1, if_neg a2, if_pos a3]
        rw [hs]
        exact seq_w3 n w (by omega) (by omega)
      · have hs : seqV n = [240 + n / 262144, 128 + n / 4096 % 64, 128 + n / 64 % 64, 128 + n % 64] := by unfold seqV; rw [if_neg a1, if_neg a2, if_neg a3]
        rw [hs]
        exact seq_w4 n w (by omega) (by omega)
theorem seq_sl (n : Nat) (w : World) : SlB (w.alloc (.cells ((seqV n).map B8).toArray 5)) (some ⟨w.heap.size, 0, none⟩) (seqV n) := by
  refine .inr ⟨_, _, rfl, by simp, fun i x hx => ?_⟩
  have := World.cell?_alloc_mark w ((seqV n).map B8).toArray 5 (0, 0) (0 + i)
  rw [this]
  simp [hx, B8]

theorem begins_short (s : ByteArray) (a : Option Addr) (m c : Nat) (w : World) (h : (s.size : Int) < (m : Int)) :
    Calls Tryz.prog 62 #[.string s, .slice a m c] w fun e w' => e = .returned (.bool false) ∧ w' = w := by
  go_enter Tryz.func62, Tryz.ntmps62
  go_wp2
  go_ret
  exact ⟨rfl, rfl⟩

set_option maxHeartbeats 400000 in
theorem begins_long (s : ByteArray) (a : Option Addr) (c : Nat) (bs : List Nat) (w : World) (hg : SlB w a bs) (hm : bs.length ≤ s.size) (hs : s.size ≤ 9223372036854775807) :
    Calls Tryz.prog 62 #[.string s, .slice a bs.length c] w fun e w' => e = .returned (.bool (begB (bl s) bs)) ∧ ∃ n, w' = w.drewN n := by
  have hm' : (bs.length : Int) ≤ (s.size : Int) := by omega
  go_enter Tryz.func62, Tryz.ntmps62
  go_wp2
  go_loopw [5] (fun q wr => ∃ k n : Nat, k ≤ bs.length ∧ q = .int .i64 k ∧ (∀ i, i < k → by' (bl s) i = bs.getD i 0) ∧ wr = w.drewN n) (fun q _ => bs.length - (intOf q).toNat)
  case atStart => exact ⟨0, 0, by omega, rfl, fun i hi => by omega, rfl⟩
  case round =>
    obtain ⟨k, n, hk, rfl, ht, rfl⟩ := hrel
    have HT := hide ht
    clear ht
    by_cases hlt : k < bs.length
    · obtain ⟨x, hx⟩ : ∃ x, bs[k]? = some x := ⟨_, List.getElem?_eq_getElem hlt⟩
      obtain ⟨b, off, rfl, _, hs1⟩ : ∃ b off, a = some ⟨b, off, none⟩ ∧ b < w.heap.size ∧ ∀ (i x : Nat), bs[i]? = some x → w.cell? ⟨b, off + i, none⟩ = some (.int .u8 (x : Int)) := by
        rcases hg with rfl | h
        · simp at hlt
        · exact h
      have c1 := hs1 k x hx
      have HX := hide hx
      clear hx hs1 hg
      have hki : (k : Int) < (bs.length : Int) := by omega
      have hks : (k : Int) < (s.size : Int) := by omega
      have hks' : k < s.size := by omega
      have hb := by'_get s k hks'
      have HB := hide hb
      clear hb
      by_cases hxy : (s[k]'hks').toNat = x
      · have hq : (((s[k]'hks').toNat : Int) != (x : Int)) = false := by simp [hxy]
        have HXY := hide hxy
        clear hxy
        go_wp2
        go_quiet (fail)
        go_wp2
        go_roundw
        case rel =>
          refine ⟨k + 1, n + nq, by omega, by go_num, fun i hi => ?_, rfl⟩
          by_cases hik : i < k
          · exact HT.out i hik
          · have : i = k := by omega
            subst this
            unfold bl
            rw [HB.out, HXY.out, List.getD_eq_getElem?_getD, HX.out]; rfl
        case measure => simp [intOf]; omega
      · have hq : (((s[k]'hks').toNat : Int) != (x : Int)) = true := by simp; omega
        have HXY := hide hxy
        clear hxy
        go_wp2
        go_quiet (fail)
        go_wp2
        go_ret
        refine ⟨ret_bool (Eq.symm (decide_eq_false fun h => HXY.out ?_)), n + nq, by simp⟩
        have := h.2 k hlt
        unfold bl at this
        rw [HB.out, List.getD_eq_getElem?_getD, HX.out] at this
        exact this
    · have hkk : k = bs.length := by omega
      subst hkk
      go_wp2
      go_ret
      refine ⟨ret_bool (Eq.symm (decide_eq_true ⟨by rw [bl_len]; exact hm, HT.out⟩)), _, rfl⟩

theorem begins_any' (s : ByteArray) (a : Option Addr) (c : Nat) (bs : List Nat) (w : World) (hg : SlB w a bs) (hs : s.size ≤ 9223372036854775807) :
    Calls Tryz.prog 62 #[.string s, .slice a bs.length c] w fun e w' => e = .returned (.bool (begB (bl s) bs)) ∧ Below w.heap.size w w' := by
  by_cases h : bs.length ≤ s.size
  · refine (begins_long s a c bs w hg h hs).mono ?_
    rintro e w' ⟨rfl, n, rfl⟩
    exact ⟨rfl, below_drewN (Below.refl _ _) n⟩
  · have : begB (bl s) bs = false := decide_eq_false (fun k => by rw [bl_len] at k; omega)
    rw [this]
    refine (begins_short s a bs.length c w (by omega)).mono ?_
    rintro e w' ⟨rfl, rfl⟩
    exact ⟨rfl, Below.refl _ _⟩
end Go.Proofs.YtodooppapciegaaGreatDoor
namespace Go.Proofs.YtodooppapciegaaGreatDoor
open Go.RowKit
set_option linter.unusedVariables false

theorem number_1 (s : ByteArray) (w : World) (h : 1 ≤ s.size) (hs : s.size ≤ 9223372036854775807) :
    Calls Tryz.prog 60 #[.string s, .int .i64 1] w fun e w' => e = .returned (.int .i32 (numV (bl s) 1)) ∧ Below w.heap.size w w' := by
  have h0 : 0 < s.size := by omega
  have hz : (0 : Int) < (s.size : Int) := by omega
  have hb := by'_get s 0 h0
  have hlt : (s[0]'h0).toNat < 256 := UInt8.toNat_lt _
  have HB := hide hb
  clear hb
  go_enter Tryz.func60, Tryz.ntmps60
  go_wp2
  go_ret
  refine ⟨ret_int ?_, Below.refl _ _⟩
  show _ = ((by' (bl s) 0 : Nat) : Int)
  unfold bl
  rw [HB.out]


set_option maxRecDepth 100000 in
set_option maxHeartbeats 1000000 in
theorem number_2 (s : ByteArray) (w : World) (h : 2 ≤ s.size) (hs : s.size ≤ 9223372036854775807) :
    Calls Tryz.prog 60 #[.string s, .int .i64 2] w fun e w' => e = .returned (.int .i32 (numV (bl s) 2)) ∧ Below w.heap.size w w' := by
  have h0 : 0 < s.size := by omega
  have hz : (0 : Int) < (s.size : Int) := by omega
  have g0 : 0 < s.size := by omega
  have z0 : (0 : Int) < (s.size : Int) := by omega
  have b0 := by'_get s 0 g0
  have l0 : (s[0]'g0).toNat < 256 := UInt8.toNat_lt _
  have g1 : 1 < s.size := by omega
  have z1 : (1 : Int) < (s.size : Int) := by omega
  have b1 := by'_get s 1 g1
  have l1 : (s[1]'g1).toNat < 256 := UInt8.toNat_lt _
  have hv : numV (bl s) 2 = (((by' (bl s) 0 : Int) - 192) * 64 + (by' (bl s) 1 : Int) % 64) := rfl
  rw [hv]
  clear hv
  unfold bl
  rw [b0]
  have HB0 := hide b0
  rw [b1]
  have HB1 := hide b1
  clear b0 b1
  go_enter Tryz.func60, Tryz.ntmps60
  go_wp2
  go_quiet (fail)
  go_wp2
  go_loopw [5, 6] (fun n i wr => Below w.heap.size w wr ∧ ((i = .int .i64 1 ∧ n = .int .i64 (((s[0]'g0).toNat : Int) - 192)) ∨ (i = .int .i64 2 ∧ n = .int .i64 ((((s[0]'g0).toNat : Int) - 192) * 64 + ((s[1]'g1).toNat : Int) % 64)))) (fun _ i _ => 5 - (intOf i).toNat)
  case atStart => exact ⟨below_drewN (Below.refl _ _) _, .inl ⟨rfl, by go_num⟩⟩
  case round =>
    obtain ⟨hB, ⟨rfl, rfl⟩ | ⟨rfl, rfl⟩⟩ := hrel
    · have HB := hide hB
      clear hB
      go_wp2
      go_roundw
      case rel => exact ⟨HB.out, .inr (⟨rfl, by go_num⟩)⟩
      case measure => simp [intOf]
    · have HB := hide hB
      clear hB
      go_wp2
      go_ret
      exact ⟨rfl, HB.out⟩

set_option maxRecDepth 100000 in
set_option maxHeartbeats 1000000 in
theorem number_3 (s : ByteArray) (w : World) (h : 3 ≤ s.size) (hs : s.size ≤ 9223372036854775807) :
    Calls Tryz.prog 60 #[.string s, .int .i64 3] w fun e w' => e = .returned (.int .i32 (numV (bl s) 3)) ∧ Below w.heap.size w w' := by
  have h0 : 0 < s.size := by omega
  have hz : (0 : Int) < (s.size : Int) := by omega
  have g0 : 0 < s.size := by omega
  have z0 : (0 : Int) < (s.size : Int) := by omega
  have b0 := by'_get s 0 g0
  have l0 : (s[0]'g0).toNat < 256 := UInt8.toNat_lt _
  have g1 : 1 < s.size := by omega
  have z1 : (1 : Int) < (s.size : Int) := by omega
  have b1 := by'_get s 1 g1
  have l1 : (s[1]'g1).toNat < 256 := UInt8.toNat_lt _
  have g2 : 2 < s.size := by omega
  have z2 : (2 : Int) < (s.size : Int) := by omega
  have b2 := by'_get s 2 g2
  have l2 : (s[2]'g2).toNat < 256 := UInt8.toNat_lt _
  have hv : numV (bl s) 3 = ((((by' (bl s) 0 : Int) - 224) * 64 + (by' (bl s) 1 : Int) % 64) * 64 + (by' (bl s) 2 : Int) % 64) := rfl
  rw [hv]
  clear hv
  unfold bl
  rw [b0]
  have HB0 := hide b0
  rw [b1]
  have HB1 := hide b1
  rw [b2]
  have HB2 := hide b2
  clear b0 b1 b2
  go_enter Tryz.func60, Tryz.ntmps60
  go_wp2
  go_quiet (fail)
  go_wp2
  go_loopw [5, 6] (fun n i wr => Below w.heap.size w wr ∧ ((i = .int .i64 1 ∧ n = .int .i64 (((s[0]'g0).toNat : Int) - 224)) ∨ (i = .int .i64 2 ∧ n = .int .i64 ((((s[0]'g0).toNat : Int) - 224) * 64 + ((s[1]'g1).toNat : Int) % 64)) ∨ (i = .int .i64 3 ∧ n = .int .i64 (((((s[0]'g0).toNat : Int) - 224) * 64 + ((s[1]'g1).toNat : Int) % 64) * 64 + ((s[2]'g2).toNat : Int) % 64)))) (fun _ i _ => 5 - (intOf i).toNat)
  case atStart => exact ⟨below_drewN (Below.refl _ _) _, .inl ⟨rfl, by go_num⟩⟩
  case round =>
    obtain ⟨hB, ⟨rfl, rfl⟩ | ⟨rfl, rfl⟩ | ⟨rfl, rfl⟩⟩ := hrel
    · have HB := hide hB
      clear hB
      go_wp2
      go_roundw
      case rel => exact ⟨HB.out, .inr (.inl ⟨rfl, by go_num⟩)⟩
      case measure => simp [intOf]
    · have HB := hide hB
      clear hB
      go_wp2
      go_roundw
      case rel => exact ⟨HB.out, .inr (.inr (⟨rfl, by go_num⟩))⟩
      case measure => simp [intOf]
    · have HB := hide hB
      clear hB
      go_wp2
      go_ret
      exact ⟨rfl, HB.out⟩

set_option maxRecDepth 100000 in
set_option maxHeartbeats 1000000 in
theorem number_4 (s : ByteArray) (w : World) (h : 4 ≤ s.size) (hs : s.size ≤ 9223372036854775807) :
    Calls Tryz.prog 60 #[.string s, .int .i64 4] w fun e w' => e = .returned (.int .i32 (numV (bl s) 4)) ∧ Below w.heap.size w w' := by
  have h0 : 0 < s.size := by omega
  have hz : (0 : Int) < (s.size : Int) := by omega
  have g0 : 0 < s.size := by omega
  have z0 : (0 : Int) < (s.size : Int) := by omega
  have b0 := by'_get s 0 g0
  have l0 : (s[0]'g0).toNat < 256 := UInt8.toNat_lt _
  have g1 : 1 < s.size := by omega
  have z1 : (1 : Int) < (s.size : Int) := by omega
  have b1 := by'_get s 1 g1
  have l1 : (s[1]'g1).toNat < 256 := UInt8.toNat_lt _
  have g2 : 2 < s.size := by omega
  have z2 : (2 : Int) < (s.size : Int) := by omega
  have b2 := by'_get s 2 g2
  have l2 : (s[2]'g2).toNat < 256 := UInt8.toNat_lt _
  have g3 : 3 < s.size := by omega
  have z3 : (3 : Int) < (s.size : Int) := by omega
  have b3 := by'_get s 3 g3
  have l3 : (s[3]'g3).toNat < 256 := UInt8.toNat_lt _
  have hv : numV (bl s) 4 = (((((by' (bl s) 0 : Int) - 240) * 64 + (by' (bl s) 1 : Int) % 64) * 64 + (by' (bl s) 2 : Int) % 64) * 64 + (by' (bl s) 3 : Int) % 64) := rfl
  rw [hv]
  clear hv
  unfold bl
  rw [b0]
  have HB0 := hide b0
  rw [b1]
  have HB1 := hide b1
  rw [b2]
  have HB2 := hide b2
  rw [b3]
  have HB3 := hide b3
  clear b0 b1 b2 b3
  go_enter Tryz.func60, Tryz.ntmps60
  go_wp2
  go_quiet (fail)
  go_wp2
  go_loopw [5, 6] (fun n i wr => Below w.heap.size w wr ∧ ((i = .int .i64 1 ∧ n = .int .i64 (((s[0]'g0).toNat : Int) - 240)) ∨ (i = .int .i64 2 ∧ n = .int .i64 ((((s[0]'g0).toNat : Int) - 240) * 64 + ((s[1]'g1).toNat : Int) % 64)) ∨ (i = .int .i64 3 ∧ n = .int .i64 (((((s[0]'g0).toNat : Int) - 240) * 64 + ((s[1]'g1).toNat : Int) % 64) * 64 + ((s[2]'g2).toNat : Int) % 64)) ∨ (i = .int .i64 4 ∧ n = .int .i64 ((((((s[0]'g0).toNat : Int) - 240) * 64 + ((s[1]'g1).toNat : Int) % 64) * 64 + ((s[2]'g2).toNat : Int) % 64) * 64 + ((s[3]'g3).toNat : Int) % 64)))) (fun _ i _ => 5 - (intOf i).toNat)
  case atStart => exact ⟨below_drewN (Below.refl _ _) _, .inl ⟨rfl, by go_num⟩⟩
  case round =>
    obtain ⟨hB, ⟨rfl, rfl⟩ | ⟨rfl, rfl⟩ | ⟨rfl, rfl⟩ | ⟨rfl, rfl⟩⟩ := hrel
    · have HB := hide hB
      clear hB
      go_wp2
      go_roundw
      case rel => exact ⟨HB.out, .inr (.inl ⟨rfl, by go_num⟩)⟩
      case measure => simp [intOf]
    · have HB := hide hB
      clear hB
      go_wp2
      go_roundw
      case rel => exact ⟨HB.out, .inr (.inr (.inl ⟨rfl, by go_num⟩))⟩
      case measure => simp [intOf]
    · have HB := hide hB
      clear hB
      go_wp2
      go_roundw
      case rel => exact ⟨HB.out, .inr (.inr (.inr (⟨rfl, by go_num⟩)))⟩
      case measure => simp [intOf]
    · have HB := hide hB
      clear hB
      go_wp2
      go_ret
      exact ⟨rfl, HB.out⟩

theorem number_any (s : ByteArray) (k : Nat) (w : World) (h1 : 1 ≤ k) (h4 : k ≤ 4) (h : k ≤ s.size) (hs : s.size ≤ 9223372036854775807) :
    Calls Tryz.prog 60 #[.string s, .int .i64 k] w fun e w' => e = .returned (.int .i32 (numV (bl s) k)) ∧ Below w.heap.size w w' := by
  have hk : k = 1 ∨ k = 2 ∨ k = 3 ∨ k = 4 := by omega
  rcases hk with rfl | rfl | rfl | rfl
  · exact number_1 s w h hs
  · exact number_2 s w h hs
  · exact number_3 s w h hs
  · exact number_4 s w h hs

theorem refFirst_none (s : ByteArray) (w : World) (h : s.size = 0) :
    Calls Tryz.prog 46 #[.string s] w fun e w' => e = .returned (.tuple #[.int .i32 0, .int .i64 0, .bool false]) ∧ w' = w := by
  have hz : ((s.size : Int) == 0) = true := by simp [h]
  go_enter Tryz.func46, Tryz.ntmps46
  go_wp2
  go_ret3
  exact ⟨rfl, rfl⟩

theorem noj {P k : Nat} (h : ∀ j, 1 ≤ j → j < k → P ≠ j) (h2 : P ≠ k) : ∀ j, 1 ≤ j → j < k + 1 → P ≠ j := by
  intro j h1 h3
  by_cases hj : j = k
  · subst hj; exact h2
  · exact h j h1 (by omega)
theorem okB_may {l : List UInt8} {k : Nat} (h : mayB (numV l k) = false) : okB l k = false := by unfold okB; rw [h]; rfl
theorem okB_beg {l : List UInt8} {k : Nat} (h : begB l (seqV (numV l k).toNat) = false) : okB l k = false := by unfold okB; rw [h, Bool.and_false]; rfl
theorem okB_all {l : List UInt8} {k : Nat} (h : mayB (numV l k) = true) (h2 : begB l (seqV (numV l k).toNat) = true) : okB l k = decide ((seqV (numV l k).toNat).length = k) := by unfold okB; rw [h, h2]; rfl

set_option maxRecDepth 100000 in
set_option maxHeartbeats 1000000 in
theorem refFirst_some (s : ByteArray) (w : World) (h : 0 < s.size) (hs : s.size ≤ 9223372036854775807) :
    Calls Tryz.prog 46 #[.string s] w fun e w' => e = .returned (.tuple #[.int .i32 (firstV (bl s)).1, .int .i64 (firstV (bl s)).2.1, .bool (firstV (bl s)).2.2]) ∧ Below w.heap.size w w' := by
  have hz : ((s.size : Int) == 0) = false := beq_eq_false_iff_ne.2 (by omega)
  have hW := W_len (bl s) (bl_ne h)
  have hW4 := W_le4 (bl s)
  rw [bl_len] at hW
  have hno : W (bl s) = 0 → firstV (bl s) = (65533, 1, false) := fun h0 => by rw [firstV_ne (bl_ne h), h0, cw_0 h0, rune_0 h0]; rfl
  have hyes : ∀ k, 1 ≤ k → W (bl s) = k → firstV (bl s) = (numV (bl s) k, (k : Int), true) := fun k h1 hk => by
    rw [firstV_ne (bl_ne h), numV_rune (bl s) k h1 hk, cw_W (l := bl s) (by omega), hk, decide_eq_true (p := k ≠ 0) (by omega)]
  have HNO := hide hno
  have HYES := hide hyes
  clear hno hyes
  go_enter Tryz.func46, Tryz.ntmps46
  go_wp2
  go_loopw [5] (fun q wr => ∃ k : Nat, 1 ≤ k ∧ k ≤ 5 ∧ q = .int .i64 k ∧ Below w.heap.size w wr ∧ (∀ j, 1 ≤ j → j < k → W (bl s) ≠ j)) (fun q _ => 5 - (intOf q).toNat)
  case atStart => exact ⟨1, by omega, by omega, rfl, Below.refl _ _, fun j h1 h2 => by omega⟩
  case round =>
    obtain ⟨k, hk1, hk5, rfl, hB, hj⟩ := hrel
    have HB := hide hB
    have HJ := hide hj
    clear hB hj
    by_cases h4 : k ≤ 4
    · have h4' : (k : Int) ≤ 4 := by omega
      by_cases hl : k ≤ s.size
      · have hl' : (k : Int) ≤ (s.size : Int) := by omega
        have hnb := numV_bound (bl s) k
        have kn := fun w => number_any s k w hk1 h4 hl hs
        have hok := okB_iff (bl s) k hk1 h4 (by rw [bl_len]; exact hl)
        have km := fun w => may_any (numV (bl s) k) w (by omega) (by omega)
        have hm1 := okB_may (l := bl s) (k := k)
        have hm2 := okB_beg (l := bl s) (k := k)
        have hm3 := okB_all (l := bl s) (k := k)
        have HY := HYES.out k hk1
        have hmz : mayB (numV (bl s) k) = true → 0 ≤ numV (bl s) k ∧ numV (bl s) k ≤ 1114111 := fun h => by have := mayB_iff.1 h; omega
        generalize numV (bl s) k = z at *
        have KN := hide kn
        have KM := hide km
        have HOK := hide hok
        have HYY := hide HY
        clear kn km hok HY
        cases hmay : mayB z with
        | false =>
          have hW' : W (bl s) ≠ k := fun e => by have := HOK.out.2 e; rw [hm1 hmay] at this; cases this
          have HWk := hide hW'
          rw [hmay] at KM
          clear hm1 hm2 hm3 hmz hmay hW'
          go_wp2_with (first | (go_at_call 60; refine (KN.out _).mono ?_; rintro e w1 ⟨rfl, hB1⟩) | (go_at_call 61; refine (KM.out _).mono ?_; rintro e w2 ⟨rfl, rfl⟩))
          go_roundw
          case rel => exact ⟨k + 1, by omega, by omega, by go_num, bseq HB.out hB1, noj HJ.out HWk.out⟩
          case measure => simp [intOf]; omega
        | true =>
          obtain ⟨hz0, hz1⟩ := hmz hmay
          obtain ⟨m, rfl⟩ : ∃ m : Nat, z = (m : Int) := ⟨z.toNat, by omega⟩
          have hm : m ≤ 1114111 := by omega
          rw [Int.toNat_natCast] at hm2 hm3
          have ks := fun w => seq_any m w hm
          have kb : ∀ w a c, SlB w a (seqV m) → Calls Tryz.prog 62 #[.string s, .slice a (seqV m).length c] w fun e w' => e = .returned (.bool (begB (bl s) (seqV m))) ∧ Below w.heap.size w w' := fun w a c h => begins_any' s a c (seqV m) w h hs
          have ksl := fun w => seq_sl m w
          have hlen := seqV_len m
          rw [hmay] at KM
          generalize hq : seqV m = q at *
          have KS := hide ks
          have KB := hide kb
          have KL := hide ksl
          clear ks kb ksl hq
          generalize hqn : q.length = qn at *
          generalize (q.map B8).toArray = Q at *
          have HQ := hide hqn
          clear hqn
          cases hbeg : begB (bl s) q with
          | false =>
            have hW' : W (bl s) ≠ k := fun e => by have := HOK.out.2 e; rw [hm2 hbeg] at this; cases this
            have HWk := hide hW'
            rw [hbeg] at KB
            clear hm1 hm2 hm3 hmz hmay hW' hbeg
            go_wp2_with (first | (go_at_call 60; refine (KN.out _).mono ?_; rintro e w1 ⟨rfl, hB1⟩) | (go_at_call 61; refine (KM.out _).mono ?_; rintro e w2 ⟨rfl, rfl⟩) | (go_at_call 63; refine (KS.out _).mono ?_; rintro e w3 ⟨rfl, rfl⟩) | (go_at_call 62; refine (KB.out _ _ _ (KL.out _)).mono ?_; rintro e w4 ⟨rfl, hB4⟩))
            go_roundw
            case rel => exact ⟨k + 1, by omega, by omega, by go_num, bseq (bseq HB.out hB1) (bseq ((Below.refl _ _).alloc (Nat.le_refl _) _) hB4), noj HJ.out HWk.out⟩
            case measure => simp [intOf]; omega
          | true =>
            have hall := hm3 hmay hbeg
            rw [hbeg] at KB
            by_cases hlk : qn = k
            · have hWk : W (bl s) = k := HOK.out.1 (by rw [hall]; exact decide_eq_true hlk)
              have hlk' : ((qn : Int) == (k : Int)) = true := by simp [hlk]
              have HV := hide (HYY.out hWk)
              clear hm1 hm2 hm3 hmz hmay hbeg hall hlk hWk
              go_wp2_with (first | (go_at_call 60; refine (KN.out _).mono ?_; rintro e w1 ⟨rfl, hB1⟩) | (go_at_call 61; refine (KM.out _).mono ?_; rintro e w2 ⟨rfl, rfl⟩) | (go_at_call 63; refine (KS.out _).mono ?_; rintro e w3 ⟨rfl, rfl⟩) | (go_at_call 62; refine (KB.out _ _ _ (KL.out _)).mono ?_; rintro e w4 ⟨rfl, hB4⟩))
              go_ret3
              exact ⟨ret_three (by rw [HV.out]) (by rw [HV.out]) (by rw [HV.out]), bseq (bseq (bseq HB.out hB1) (bseq ((Below.refl _ _).alloc (Nat.le_refl _) _) hB4)) ((Below.refl _ _).alloc (Nat.le_refl _) _)⟩
            · have hW' : W (bl s) ≠ k := fun e => by have := HOK.out.2 e; rw [hall, decide_eq_false hlk] at this; cases this
              have HWk := hide hW'
              have hlk' : ((qn : Int) == (k : Int)) = false := by simp; omega
              clear hm1 hm2 hm3 hmz hmay hbeg hall hlk hW'
              go_wp2_with (first | (go_at_call 60; refine (KN.out _).mono ?_; rintro e w1 ⟨rfl, hB1⟩) | (go_at_call 61; refine (KM.out _).mono ?_; rintro e w2 ⟨rfl, rfl⟩) | (go_at_call 63; refine (KS.out _).mono ?_; rintro e w3 ⟨rfl, rfl⟩) | (go_at_call 62; refine (KB.out _ _ _ (KL.out _)).mono ?_; rintro e w4 ⟨rfl, hB4⟩))
              go_roundw
              case rel => exact ⟨k + 1, by omega, by omega, by go_num, bseq (bseq (bseq HB.out hB1) (bseq ((Below.refl _ _).alloc (Nat.le_refl _) _) hB4)) ((Below.refl _ _).alloc (Nat.le_refl _) _), noj HJ.out HWk.out⟩
              case measure => simp [intOf]; omega
      · have hl' : (s.size : Int) < (k : Int) := by omega
        have h0 : W (bl s) = 0 := by
          rcases Nat.eq_zero_or_pos (W (bl s)) with g | g
          · exact g
          · exact absurd rfl (HJ.out (W (bl s)) g (by omega))
        have HV := hide (HNO.out h0)
        clear h0
        go_wp2
        go_ret3
        exact ⟨ret_three (by rw [HV.out]) (by rw [HV.out]) (by rw [HV.out]), HB.out⟩
    · have hk : k = 5 := by omega
      subst hk
      have h0 : W (bl s) = 0 := by
        rcases Nat.eq_zero_or_pos (W (bl s)) with g | g
        · exact g
        · exact absurd rfl (HJ.out (W (bl s)) g (by omega))
      have HV := hide (HNO.out h0)
      clear h0
      go_wp2
      go_ret3
      exact ⟨ret_three (by rw [HV.out]) (by rw [HV.out]) (by rw [HV.out]), HB.out⟩

theorem refFirst_any (s : ByteArray) (w : World) (hs : s.size ≤ 9223372036854775807) :
    Calls Tryz.prog 46 #[.string s] w fun e w' => e = .returned (.tuple #[.int .i32 (firstV (bl s)).1, .int .i64 (firstV (bl s)).2.1, .bool (firstV (bl s)).2.2]) ∧ Below w.heap.size w w' := by
  by_cases h : s.size = 0
  · rw [bl_nil h]
    refine (refFirst_none s w h).mono ?_
    rintro e w' ⟨rfl, rfl⟩
    exact ⟨rfl, Below.refl _ _⟩
  · exact refFirst_some s w (by omega) hs
end Go.Proofs.YtodooppapciegaaGreatDoor
