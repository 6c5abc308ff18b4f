/- The road of UtfRange: a text's characters are what a range over it tells. -/
import Derived.Test.YtfiocfhehofheaaURgM
import Derived.Test.YtfiocfhehofheaaLAll
import Derived.Test.YtfiocfhehofheaaKBk
import Derived.Test.YtfiocfhehofheaaLHeldR
import Derived.Deep.RegionHeld3
import Derived.OrdersHeld
import Derived.Deep.QuietTactic
import Derived.BigQuiet
import Derived.Deep.DeepCutAuto
namespace Go.Proofs.Ytfiocfhehofheaa.utfRange
open Go.RowKit Go.Shelf Go.Proofs.Ytfiocfhehofheaa
set_option linter.unusedVariables false
attribute [local go_sem] Oper.semAt_some

theorem Stab.at {β : Type} {H : TypeId → Prop} {B b : Nat} (o : Obj) (hb : b < B) : Stab H B (fun (_ : β) W => W.heap[b]? = some o) := fun s W W' hJ hs => hs.2 b _ hJ (.inl hb)
def I64e (e : Nat × Nat × Nat) : Value := .int .i64 (e.1 : Int)
def R32e (e : Nat × Nat × Nat) : Value := .int .i32 (e.2.1 : Int)
theorem tyne : (21 : TypeId) ≠ 3 := by decide
/-- Two rows of different types are in different blocks. -/
theorem rows_ne {W : World} {b1 b2 n1 n2 : Nat} {v1 v2 : Value} {xs ys : List Value} (h1 : W.ownsRow b1 21 1 v1 n1 xs) (h2 : W.ownsRow b2 3 1 v2 n2 ys) : ∀ j, v1.ownBlock = some j → v2.ownBlock ≠ some j := fun j e1 e2 => by
  rcases h1.2 with ⟨rfl, _⟩ | ⟨g, cap, cur, rfl, _, hg, _⟩
  · cases e1
  · cases e1
    rcases h2.2 with ⟨rfl, _⟩ | ⟨g', cap', cur', rfl, _, hg', _⟩
    · cases e2
    · cases e2
      rw [hg] at hg'
      have := (Option.some.inj hg')
      injection this with _ ht
      exact tyne ht
theorem owns_grown {W W' : World} {base : Nat} {e : TypeId} {v : Value} {n : Nat} {xs : List Value} {row : Option Nat} (h : W.ownsRow base e 1 v n xs) (hg : W.grownBy W' row) (hr : ∀ j, v.ownBlock = some j → row ≠ some j) : W'.ownsRow base e 1 v n xs := by
  refine ⟨h.1, ?_⟩
  rcases h.2 with h2 | ⟨g, cap, cur, rfl, hb, hh, r⟩
  · exact .inl h2
  · exact .inr ⟨g, cap, cur, rfl, hb, (hg.block g (Array.getElem?_eq_some_iff.1 hh).1 (fun e => hr g rfl e.symm)).trans hh, r⟩
theorem boxed_grown {W W' : World} {b : Nat} {t : TypeId} {v : Value} {row : Option Nat} (h : Boxed W b t v) (hg : W.grownBy W' row) (hr : row ≠ some b) : Boxed W' b t v :=
  (hg.block b (Array.getElem?_eq_some_iff.1 (show _ = some _ from h)).1 (fun e => hr e.symm)).trans h
theorem iter_grown {W W' : World} {b : Nat} {s : ByteArray} {p : Nat} {row : Option Nat} (h : W.heap[b]? = some (.stringIter s p)) (hg : W.grownBy W' row) (hr : row ≠ some b) : W'.heap[b]? = some (.stringIter s p) :=
  (hg.block b (Array.getElem?_eq_some_iff.1 h).1 (fun e => hr e.symm)).trans h

/-- What is asked, no panic, and no end of room. -/
def noPO (Q : Exit → Act → World → Prop) : Exit → Act → World → Prop
  | .panic _, _, _ => False
  | .outgrown, _, _ => False
  | e, a, w => Q e a w
theorem noPO_le {Q : Exit → Act → World → Prop} : ∀ e a w, noPO Q e a w → Q e a w := fun e a w h => by cases e <;> first | exact h | exact h.elim
theorem noPO_normal {Q : Exit → Act → World → Prop} {a : Act} {w : World} (h : Q .normal a w) : noPO Q .normal a w := h
theorem isW_no1 {e : Nat × Nat × Nat} (h : e.2.1 ≠ 65533) : isW e = false := by unfold isW; simp [h]
theorem isW_no2 {e : Nat × Nat × Nat} (h : e.2.2 ≠ 1) : isW e = false := by unfold isW; simp [h]
theorem isW_yes {e : Nat × Nat × Nat} (h : e.2.1 = 65533) (h2 : e.2.2 = 1) : isW e = true := by unfold isW; simp [h, h2]
/-- What lies in memory in the last walk. -/
def CC (w1 X0 : World) (s : ByteArray) (NC gv2 gc2 c1 : Nat) (a1 : Option Addr) (k : Nat) (W : World) : Prop :=
  W.cell? ⟨X0.heap.size, 0, none⟩ = some (.int .i64 (k : Int)) ∧ W.cell? ⟨w1.heap.size, 0, none⟩ = some (.int .i64 (NC : Int)) ∧ W.cell? ⟨w1.heap.size + 1, 0, none⟩ = some (.slice a1 NC c1) ∧ W.cell? ⟨w1.heap.size + 2, 0, none⟩ = some (.slice (some ⟨gv2, 0, none⟩) (NC + 1) gc2)

/-- What lies in memory in the walk over the text: the number, the runes and the places so far, and where the walk stands. -/
def GG (w1 : World) (s : ByteArray) (X : World) (p n k1 k2 : Nat) (v1 v2 : Value) (L1 L2 : List Value) : Prop :=
  X.heap[w1.heap.size + 3]? = some (.stringIter s p) ∧ Boxed X w1.heap.size 3 (.int .i64 (n : Int)) ∧ (Boxed X (w1.heap.size + 1) 32 v1 ∧ X.ownsRow (w1.heap.size + 4) 21 1 v1 k1 L1) ∧ (Boxed X (w1.heap.size + 2) 33 v2 ∧ X.ownsRow (w1.heap.size + 4) 3 1 v2 k2 L2) ∧ Below w1.heap.size w1 X ∧ w1.heap.size + 4 ≤ X.heap.size
theorem GG.below {w1 : World} {s : ByteArray} {X Y : World} {p n k1 k2 : Nat} {v1 v2 : Value} {L1 L2 : List Value} (h : GG w1 s X p n k1 k2 v1 v2 L1 L2) (hb : Below X.heap.size X Y) : GG w1 s Y p n k1 k2 v1 v2 L1 L2 := by
  obtain ⟨h1, h2, ⟨h3, h4⟩, ⟨h5, h6⟩, h7, h8⟩ := h
  exact ⟨(hb.block _ (Array.getElem?_eq_some_iff.1 h1).1).trans h1, below_boxed_t hb h2, ⟨below_boxed_t hb h3, ownsRow_belowT h4 hb⟩, ⟨below_boxed_t hb h5, ownsRow_belowT h6 hb⟩, bseq h7 hb, Nat.le_trans h8 hb.size⟩
theorem GG.setN {w1 : World} {s : ByteArray} {X : World} {p n k1 k2 : Nat} {v1 v2 : Value} {L1 L2 : List Value} (h : GG w1 s X p n k1 k2 v1 v2 L1 L2) (m : Nat) : GG w1 s (X.setCell ⟨w1.heap.size, 0, none⟩ (.int .i64 (m : Int))) p m k1 k2 v1 v2 L1 L2 := by
  obtain ⟨h1, h2, ⟨h3, h4⟩, ⟨h5, h6⟩, h7, h8⟩ := h
  refine ⟨((grownBy_setCell' X w1.heap.size _).block _ (Array.getElem?_eq_some_iff.1 h1).1 (fun e => by have := Option.some.inj e; omega)).trans h1, h2.set _, ⟨h3.other (by omega) _, ownsRow_setCell_below (a := ⟨w1.heap.size, 0, none⟩) h4 (show w1.heap.size < w1.heap.size + 4 by omega) _⟩, ⟨h5.other (by omega) _, ownsRow_setCell_below (a := ⟨w1.heap.size, 0, none⟩) h6 (show w1.heap.size < w1.heap.size + 4 by omega) _⟩, h7.setCell (p := ⟨w1.heap.size, 0, none⟩) (Nat.le_refl _) _, by simp [World.setCell]; omega⟩
theorem GG.iter {w1 : World} {s : ByteArray} {X : World} {p n k1 k2 : Nat} {v1 v2 : Value} {L1 L2 : List Value} (h : GG w1 s X p n k1 k2 v1 v2 L1 L2) (q : Nat) : GG w1 s (X.iterAt (w1.heap.size + 3) s q) q n k1 k2 v1 v2 L1 L2 := by
  obtain ⟨h1, h2, ⟨h3, h4⟩, ⟨h5, h6⟩, h7, h8⟩ := h
  have ho : ∀ b o, b ≠ w1.heap.size + 3 → X.heap[b]? = some o → (X.iterAt (w1.heap.size + 3) s q).heap[b]? = some o := fun b o hb h => by
    rw [Lib.iterAt_other X _ _ s _ hb]; exact h
  exact ⟨Lib.iterAt_heap X _ s p q h1, ho _ _ (by omega) h2, ⟨ho _ _ (by omega) h3, ownsRow_iter h4 h1 q⟩, ⟨ho _ _ (by omega) h5, ownsRow_iter h6 h1 q⟩, Lib.below_iterAt h7 (Nat.le_add_right _ _) s q, by rw [Lib.iterAt_size]; exact h8⟩
theorem GG.row1 {w1 : World} {s : ByteArray} {X w6 : World} {p n k1 k2 : Nat} {v1 v2 v' c : Value} {L1 L2 L' : List Value} (h : GG w1 s X p n k1 k2 v1 v2 L1 L2) (hg : (X.alloc (.cells #[c] 21)).grownBy w6 v1.ownBlock) (ho : w6.ownsRow (w1.heap.size + 4) 21 1 v' (k1 + 1) L') :
    (w6.cell? ⟨w1.heap.size + 1, 0, none⟩ = some v1 ∧ w6.frozen? ⟨w1.heap.size + 1, 0, none⟩ = false) ∧ GG w1 s (w6.setCell ⟨w1.heap.size + 1, 0, none⟩ v') p n (k1 + 1) k2 v' v2 L' L2 := by
  obtain ⟨h1, h2, ⟨h3, h4⟩, ⟨h5, h6⟩, h7, h8⟩ := h.below ((Below.refl _ X).alloc (Nat.le_refl _) (.cells #[c] 21))
  have hr : ∀ j, v1.ownBlock = some j → w1.heap.size + 4 ≤ j := fun j hj => (h4.lt j hj).1
  have hne : ∀ b, b < w1.heap.size + 4 → v1.ownBlock ≠ some b := fun b hb e => by have := hr b e; omega
  have g3 := boxed_grown h3 hg (hne _ (by omega))
  refine ⟨⟨g3.cell, g3.frozen⟩, ?_, (boxed_grown h2 hg (hne _ (by omega))).other (by omega) _, ⟨g3.set _, ownsRow_setCell_below (a := ⟨w1.heap.size + 1, 0, none⟩) ho (show w1.heap.size + 1 < w1.heap.size + 4 by omega) _⟩, ⟨(boxed_grown h5 hg (hne _ (by omega))).other (by omega) _, ownsRow_setCell_below (a := ⟨w1.heap.size + 1, 0, none⟩) (owns_grown h6 hg (fun j e1 e2 => rows_ne h4 h6 j e2 e1)) (show w1.heap.size + 1 < w1.heap.size + 4 by omega) _⟩, ?_, ?_⟩
  · have e1 := iter_grown h1 hg (hne _ (by omega))
    exact ((grownBy_setCell' w6 (w1.heap.size + 1) v').block _ (Array.getElem?_eq_some_iff.1 e1).1 (fun e => by have := Option.some.inj e; omega)).trans e1
  · refine Below.setCell (p := ⟨w1.heap.size + 1, 0, none⟩) ?_ (Nat.le_add_right _ _) _
    exact h7.grown hg (by omega) (fun j hj => by have := hr j hj; omega)
  · have := hg.size; simp only [World.setCell]; simp; omega
theorem GG.row2 {w1 : World} {s : ByteArray} {X w6 : World} {p n k1 k2 : Nat} {v1 v2 v' c : Value} {L1 L2 L' : List Value} (h : GG w1 s X p n k1 k2 v1 v2 L1 L2) (hg : (X.alloc (.cells #[c] 3)).grownBy w6 v2.ownBlock) (ho : w6.ownsRow (w1.heap.size + 4) 3 1 v' (k2 + 1) L') :
    (w6.cell? ⟨w1.heap.size + 2, 0, none⟩ = some v2 ∧ w6.frozen? ⟨w1.heap.size + 2, 0, none⟩ = false) ∧ GG w1 s (w6.setCell ⟨w1.heap.size + 2, 0, none⟩ v') p n k1 (k2 + 1) v1 v' L1 L' := by
  obtain ⟨h1, h2, ⟨h3, h4⟩, ⟨h5, h6⟩, h7, h8⟩ := h.below ((Below.refl _ X).alloc (Nat.le_refl _) (.cells #[c] 3))
  have hr : ∀ j, v2.ownBlock = some j → w1.heap.size + 4 ≤ j := fun j hj => (h6.lt j hj).1
  have hne : ∀ b, b < w1.heap.size + 4 → v2.ownBlock ≠ some b := fun b hb e => by have := hr b e; omega
  have g3 := boxed_grown h5 hg (hne _ (by omega))
  refine ⟨⟨g3.cell, g3.frozen⟩, ?_, (boxed_grown h2 hg (hne _ (by omega))).other (by omega) _, ⟨(boxed_grown h3 hg (hne _ (by omega))).other (by omega) _, ownsRow_setCell_below (a := ⟨w1.heap.size + 2, 0, none⟩) (owns_grown h4 hg (fun j e1 e2 => rows_ne h4 h6 j e1 e2)) (show w1.heap.size + 2 < w1.heap.size + 4 by omega) _⟩, ⟨g3.set _, ownsRow_setCell_below (a := ⟨w1.heap.size + 2, 0, none⟩) ho (show w1.heap.size + 2 < w1.heap.size + 4 by omega) _⟩, ?_, ?_⟩
  · have e1 := iter_grown h1 hg (hne _ (by omega))
    exact ((grownBy_setCell' w6 (w1.heap.size + 2) v').block _ (Array.getElem?_eq_some_iff.1 e1).1 (fun e => by have := Option.some.inj e; omega)).trans e1
  · refine Below.setCell (p := ⟨w1.heap.size + 2, 0, none⟩) ?_ (Nat.le_add_right _ _) _
    exact h7.grown hg (by omega) (fun j hj => by have := hr j hj; omega)
  · have := hg.size; simp only [World.setCell]; simp; omega

set_option maxRecDepth 100000 in
set_option maxHeartbeats 16000000 in
theorem road (s0 : ByteArray) (w : World) (hs0 : s0.size ≤ 9223372036854775807) :
    Calls Try.prog 4 #[.string s0] w fun e w' => e = .returned (.bool true) ∧ Below w.heap.size w w' := by
  refine (callsIn_wide (n := 3)).1 ?_
  refine callsIn_of_wp_marks Try.func4 rfl trivial ?_ rfl
  simp only [Try.ntmps4, List.size_toArray, List.length_cons, List.length_nil, Nat.reduceAdd, Nat.reduceSub, Array.replicate_succ, Array.replicate_zero, List.push_toArray, List.append_toArray, List.nil_append, List.cons_append]
  by_cases hbig : s0.size ≤ 3000
  · have hbI : (s0.size : Int) ≤ 3000 := by omega
    have hd0 : decide ((3000 : Int) < (s0.size : Int)) = false := decide_eq_false (by omega)
    gi_wp2_with (refine ⟨trivial, ?_⟩; gi_at_call 6; refine ((callsIn_wide).2 (awake_any _)).mono ?_; rintro e w1 ⟨rfl, hB1⟩)
    have hs : s0.size ≤ 3000 := hbig
    clear hbig hs0 hbI hd0
    obtain ⟨s, hse⟩ : ∃ s, s = s0 := ⟨_, rfl⟩
    subst hse
    obtain ⟨i0, hi, hz0, hz1, hz2⟩ := info_parts Try.info32
    obtain ⟨j0, hj, hy0, hy1, hy2⟩ := info_parts Try.info64t
    have hll := Cs_len_le (bl s)
    rw [bl_len] at hll
    have hBx : Below w.heap.size w (w.alloc (.cells #[.bool false] 4)) := (Below.refl _ w).alloc (Nat.le_refl _) _
    have b0 := below_boxed_t hB1 (Boxed.new w 4 (.bool false))
    have hB01 := bseq hBx hB1
    have hw1 : w.heap.size + 1 ≤ w1.heap.size := by have := hB1.size; simp at this; omega
    have facts : ∀ X, Below w1.heap.size w1 X → Boxed X w.heap.size 4 (.bool false) ∧ Below w.heap.size w X := fun X hX => ⟨below_boxed_t hX b0, bseq hB01 hX⟩
    have F1 := hide facts
    have bn := (((Boxed.new w1 3 (.int .i64 0)).alloc (.cells #[.slice none 0 0] 32)).alloc (.cells #[.slice none 0 0] 33)).alloc (.stringIter s 0)
    have br := ((Boxed.new (w1.alloc (.cells #[.int .i64 0] 3)) 32 (.slice none 0 0)).alloc (.cells #[.slice none 0 0] 33)).alloc (.stringIter s 0)
    have bp := (Boxed.new ((w1.alloc (.cells #[.int .i64 0] 3)).alloc (.cells #[.slice none 0 0] 32)) 33 (.slice none 0 0)).alloc (.stringIter s 0)
    have hit := World.iter_heap (((w1.alloc (.cells #[.int .i64 0] 3)).alloc (.cells #[.slice none 0 0] 32)).alloc (.cells #[.slice none 0 0] 33)) s 0
    have hBn : Below w1.heap.size w1 ((((w1.alloc (.cells #[.int .i64 0] 3)).alloc (.cells #[.slice none 0 0] 32)).alloc (.cells #[.slice none 0 0] 33)).alloc (.stringIter s 0)) := ((((Below.refl _ w1).alloc (Nat.le_refl _) _).alloc (by simp) _).alloc (by simp; omega) _).alloc (by simp; omega) _
    have hszn : ((((w1.alloc (.cells #[.int .i64 0] 3)).alloc (.cells #[.slice none 0 0] 32)).alloc (.cells #[.slice none 0 0] 33)).alloc (.stringIter s 0)).heap.size = w1.heap.size + 4 := by simp
    simp only [World.size_alloc] at br bp hit
    simp only [Nat.add_assoc, Nat.reduceAdd] at br bp hit ⊢
    change (((((w1.alloc (.cells #[.int .i64 0] 3)).alloc (.cells #[.slice none 0 0] 32)).alloc (.cells #[.slice none 0 0] 33)).alloc (.stringIter s 0)).heap[w1.heap.size + 3]?) = _ at hit
    change Code.wpIn _ _ _ _ _ _ ((((w1.alloc (.cells #[.int .i64 0] 3)).alloc (.cells #[.slice none 0 0] 32)).alloc (.cells #[.slice none 0 0] 33)).alloc (.stringIter s 0))
    generalize (((w1.alloc (.cells #[.int .i64 0] 3)).alloc (.cells #[.slice none 0 0] 32)).alloc (.cells #[.slice none 0 0] 33)).alloc (.stringIter s 0) = W0 at *
    clear facts b0 hB01 hBx hB1
    refine wpIn_wide.2 ?_
    go_loopw [6] (fun _ wr => ∃ (pos k : Nat) (v1 v2 : Value), pos ≤ s.size ∧ Inv (bl s) pos k ∧ GG w1 s wr pos k k k v1 v2 (((Cs 0 (bl s)).take k).map R32e) (((Cs 0 (bl s)).take k).map I64e)) (fun _ wr => s.size - wr.iterPos (w1.heap.size + 3))
    case atStart => exact ⟨0, 0, _, _, by omega, Inv.start _, hit, bn, ⟨br, World.ownsRow_nil _ _ _ _⟩, ⟨bp, World.ownsRow_nil _ _ _ _⟩, hBn, by omega⟩
    case round =>
      obtain ⟨pos, k, v1, v2, hps, hI, hG⟩ := hrel
      clear bn br bp hBn hszn hit
      have hit := hG.1
      have HIT := hide hit
      by_cases hlt : pos < s.size
      · have hnx : ∀ ty, (Instr.next (.pointer (some ⟨w1.heap.size + 3, 0, none⟩)) true ty).run Try.prog wr = _ := fun ty => next_at' wr (w1.heap.size + 3) s pos ty hit hlt
        obtain ⟨f1, f2, f3, f4⟩ := at_char hI (by rw [bl_len]; exact hlt)
        have hh := hI.here (by rw [bl_len]; exact hlt)
        have hst := hI.step (by rw [bl_len]; exact hlt)
        have h1 := cw_pos ((bl s).drop pos)
        have h2 := cw_len _ (bl_drop_ne hlt)
        rw [List.length_drop, bl_len] at h2
        have hkl : k < (Cs 0 (bl s)).length := (List.getElem?_eq_some_iff.1 hh).1
        have htk : (Cs 0 (bl s)).take (k + 1) = (Cs 0 (bl s)).take k ++ [(pos, rune ((bl s).drop pos), cw ((bl s).drop pos))] := (take_snoc hh).symm
        have ka := fun w' => at_any s (k : Int) w' (by omega)
        have ko := fun w' => of_any s (pos : Int) w' (by omega)
        have kb := fun w' => begins_any s (pos : Int) w' (by omega)
        have kf := fun w' => first_any (s.extract pos s.size) w' (by simp; omega)
        rw [f1] at ka
        rw [f2] at ko
        rw [f3] at kb
        rw [bl_from, f4] at kf
        have hr1 : ((Cs 0 (bl s)).take (k + 1)).map R32e = ((Cs 0 (bl s)).take k).map R32e ++ [.int .i32 (rune ((bl s).drop pos) : Int)] := by rw [htk, List.map_append]; rfl
        have hp1 : ((Cs 0 (bl s)).take (k + 1)).map I64e = ((Cs 0 (bl s)).take k).map I64e ++ [.int .i64 (pos : Int)] := by rw [htk, List.map_append]; rfl
        generalize (firstV ((bl s).drop pos)).2.1 = fw at *
        generalize (firstV ((bl s).drop pos)).2.2 = fr at *
        generalize rune ((bl s).drop pos) = r at *
        generalize hc : cw ((bl s).drop pos) = c at *
        generalize ((Cs 0 (bl s)).take k).map R32e = L1 at *
        generalize ((Cs 0 (bl s)).take k).map I64e = L2 at *
        have hG2 := hG.iter (pos + c)
        generalize hW : wr.iterAt (w1.heap.size + 3) s (pos + c) = W2 at *
        have hposI : (pos : Int) ≤ (s.size : Int) := by omega
        have hkI : (k : Int) ≤ 3000 := by omega
        have cn := hG2.2.1.cell
        have HG2 := hide hG2
        have HST := hide hst
        have HR1 := hide hr1
        have HP1 := hide hp1
        have KA := hide ka
        have KO := hide ko
        have KB := hide kb
        have KF := hide kf
        have hk0 : k ≤ 3000 := by omega
        have e1 : ((pos : Int) != (pos : Int)) = false := by simp
        have e2 : ((k : Int) != (k : Int)) = false := by simp
        have e3 : ((r : Int) != (r : Int)) = false := by simp
        have N1 := hide trivial
        clear hG hG2 hst hr1 hp1 ka ko kb kf hI hh htk hit hc f1 f2 f3 f4 hW
        go_upto_region 16 with (first
          | (go_at_call 11; refine (KA.out _).mono ?_; rintro e x1 ⟨rfl, hX1⟩)
          | (go_at_call 12; refine (KO.out _).mono ?_; rintro e x2 ⟨rfl, hX2⟩)
          | (go_at_call 13; refine (KF.out _).mono ?_; rintro e x3 ⟨rfl, hX3⟩; have cn3 := (HG2.out.below (bseq (bseq hX1 hX2) hX3)).2.1.cell)
          | (go_at_call 14; refine (KB.out _).mono ?_; rintro e x4 ⟨rfl, hX4⟩))
        have hG4 := HG2.out.below (bseq (bseq (bseq hX1 hX2) hX3) hX4)
        have cn4 := hG4.2.1.cell
        have fn4 := hG4.2.1.frozen
        have hG5 := hG4.setN (k + 1)
        have hk1 : (((k + 1 : Nat) : Int)) = (k : Int) + 1 := by omega
        rw [hk1] at hG5
        have cr5 := hG5.2.2.1.1.cell
        have HG5 := hide hG5
        clear hX1 hX2 hX3 hX4 cn3 hG4 hG5 HG2 cn hk1 KA KO KF KB
        go_upto_region 17 with (fail)
        generalize x4.setCell ⟨w1.heap.size, 0, none⟩ (.int .i64 ((k : Int) + 1)) = X5 at *
        clear cn4 fn4
        go_upto_region 18 with (at_builtin; refine wpList_append_own _ rfl _ _ 32 rfl (w1.heap.size + 4) 21 i0 (.int .i32 0) 1 4 Try.underlying32 hi hz0 hz1 hz2 rfl (by decide) v1 k L1 rfl (HG5.out.2.2.1.2.alloc _) ⟨X5.heap.size, 0, none⟩ 1 1 [.int .i32 (r : Int)] rfl rfl (cell_one_new _ _ _) (by simp [Value.oneCell']) (by simp only [maxLen]; omega) (by omega) (by have := HG5.out.2.2.2.2.2; simp; omega) ?_; intro v1' w6 hown1 hg1 _; obtain ⟨gv, gc, rfl⟩ := row_valT hown1; obtain ⟨⟨c6, f6⟩, hG7⟩ := HG5.out.row1 hg1 hown1; replace hG7 := hide hG7)
        have cp7 := hG7.out.2.2.2.1.1.cell
        generalize w6.setCell ⟨w1.heap.size + 1, 0, none⟩ _ = X7 at *
        clear c6 f6 hg1 hown1 HG5 cr5
        go_wp2_with (at_builtin; refine wpList_append_own _ rfl _ _ 33 rfl (w1.heap.size + 4) 3 j0 (.int .i64 0) 1 8 Try.underlying33 hj hy0 hy1 hy2 rfl (by decide) v2 k L2 rfl (hG7.out.2.2.2.1.2.alloc _) ⟨X7.heap.size, 0, none⟩ 1 1 [.int .i64 (pos : Int)] rfl rfl (cell_one_new _ _ _) (by simp [Value.oneCell']) (by simp only [maxLen]; omega) (by omega) (by have := hG7.out.2.2.2.2.2; simp; omega) ?_; intro v2' w8 hown2 hg2 _; obtain ⟨gv2, gc2, rfl⟩ := row_valT hown2; obtain ⟨⟨c8, f8⟩, hG9⟩ := hG7.out.row2 hg2 hown2; replace hG9 := hide hG9)
        go_roundw
        case rel => exact ⟨pos + c, k + 1, _, _, by omega, HST.out, by rw [HR1.out, HP1.out]; exact hG9.out⟩
        case measure =>
          have e1 : World.iterPos (w8.setCell ⟨w1.heap.size + 2, 0, none⟩ _) (w1.heap.size + 3) = pos + c := iterPos_of hG9.out.1
          have e2 : wr.iterPos (w1.heap.size + 3) = pos := iterPos_of HIT.out
          rw [e1, e2]; omega
      · have hpe : pos = s.size := by omega
        subst hpe
        have hnx : ∀ ty, (Instr.next (.pointer (some ⟨w1.heap.size + 3, 0, none⟩)) true ty).run Try.prog wr = _ := fun ty => Lib.run_next_end_at wr (w1.heap.size + 3) s s.size ty hit hlt
        have hfin := hI.fin (by rw [bl_len]; exact Nat.le_refl _)
        rw [hfin, List.take_length] at hG
        obtain ⟨NC, hNC⟩ : ∃ NC, (Cs 0 (bl s)).length = NC := ⟨_, rfl⟩
        have HNC := hide hNC
        rw [hNC] at hG hll hfin
        have hrz : (Cs 0 (bl s)).map R32e = (runesZ (bl s)).map R32 := by unfold runesZ; rw [List.map_map]; rfl
        rw [hrz] at hG
        have hzl : (runesZ (bl s)).length = NC := by rw [runesZ_len, hNC]
        obtain ⟨a1, c1, rfl, hsu⟩ := sluB hG.2.2.1.2 hzl
        have hNCI : (NC : Int) ≤ 3000 := by omega
        have kc : ∀ w', Calls Try.prog 15 #[.string s] w' fun e w'' => e = .returned (.int .i64 (NC : Int)) ∧ Below w'.heap.size w' w'' := fun w' => by
          have := count_any s w' (by omega)
          rw [hNC] at this
          exact this
        have kr : ∀ w', Calls Try.prog 17 #[.string s] w' fun e w'' => (∃ g, e = .returned (.slice (some ⟨g, 0, none⟩) NC NC) ∧ SlU w'' (some ⟨g, 0, none⟩) (runesZ (bl s))) ∧ Below w'.heap.size w' w'' := fun w' => by
          have := runes_any s w' (by omega)
          rw [hNC] at this
          refine this.mono ?_
          rintro e w'' ⟨g, rfl, ho, hB⟩
          obtain ⟨a', c', e1, hs⟩ := sluB ho hzl
          cases e1
          exact ⟨⟨g, rfl, hs⟩, hB⟩
        have ksm := fun a b c d w' (ha : SlU w' a (runesZ (bl s))) (hb : SlU w' b (runesZ (bl s))) => same_yes a b c d (runesZ (bl s)) NC hzl w' ha hb (by omega)
        have kcv : ∀ w', ∃ c, (convert 9 32 (.string s)).run Try.prog w' = .ok (.slice (some ⟨w'.heap.size, 0, none⟩) NC c) (w'.drew.alloc (.cells (((runesZ (bl s)).map R32).toArray ++ Array.replicate (c - NC) (.int .i32 0)) 21)) := fun w' => by
          obtain ⟨c, hc⟩ := run_runesB s w' (by omega)
          rw [hzl] at hc
          exact ⟨c, hc⟩
        have mk : ∀ W, Below wr.heap.size wr W → W.cell? ⟨w1.heap.size, 0, none⟩ = some (.int .i64 (NC : Int)) ∧ W.cell? ⟨w1.heap.size + 1, 0, none⟩ = some (.slice a1 NC c1) := fun W hW => ⟨(hG.below hW).2.1.cell, (hG.below hW).2.2.1.1.cell⟩
        have hsuB : ∀ W, Below wr.heap.size wr W → SlU W a1 (runesZ (bl s)) := fun W hW => hsu.below hW
        have KC := hide kc
        have KR := hide kr
        have KSM := hide ksm
        have KCV := hide kcv
        have MK := hide mk
        have HSU := hide hsuB
        have HG := hide hG
        have hne : ((NC : Int) != (NC : Int)) = false := by simp
        have HZL := hide hzl
        clear kc kr ksm kcv mk hsuB hsu hG hI hrz hNC hfin hit hzl
        go_wp2_with (fail)
        gi_wp2_with (fail)
        refine wpIn_wide.2 (Go.wp_mono (Q := noPan _) ?_ noPan_le)
        refine wp_region_held_drew (S := fun W => W.cell? ⟨w1.heap.size, 0, none⟩ = some (.int .i64 (NC : Int)) ∧ W.cell? ⟨w1.heap.size + 1, 0, none⟩ = some (.slice a1 NC c1)) (by kernel_rfl) (MK.out _ (Below.refl _ wr).drew) (fun hS => ?_)
        refine wpAnyH_take (i := 0) (v := .string s) rfl (by kernel_rfl) (by kernel_rfl) (by kernel_rfl) (fun _ _ _ h => h) (Or.inl ⟨by kernel_rfl, fun w' hw => by (obtain ⟨z0, z1⟩ := hw; go_simp)⟩) hS ?_
        refine wpAnyH_take (i := 2) (v := .int .i64 (NC : Int)) rfl (by kernel_rfl) (by kernel_rfl) (by kernel_rfl) (fun _ _ _ h => h) (Or.inl ⟨by kernel_rfl, fun w' hw => by (obtain ⟨z0, z1⟩ := hw; go_simp)⟩) hS ?_
        refine wpAnyH_ready (rs := [1]) (by kernel_rfl) (by simp) ?_
        refine AllReadyH.cons rfl (fun K hK => ?_) AllReadyH.nil
        rw [if_pos (by kernel_rfl)]
        go_simp
        go_wp2_with (go_at_call 15; refine (KC.out _).mono ?_; rintro e X2 ⟨rfl, hB2⟩)
        have hBq : Below wr.heap.size wr X2 := bseq (Below.refl _ wr).drew hB2
        have hS := MK.out _ hBq
        refine hK.out _ _ hS (fun _ => ?_)
        clear hK K
        refine wpAnyH_take (i := 3) (v := .bool false) rfl (by kernel_rfl) (by kernel_rfl) (by kernel_rfl) (fun _ _ _ h => h) (Or.inl ⟨by kernel_rfl, fun w' hw => by (obtain ⟨z0, z1⟩ := hw; go_simp)⟩) hS ?_
        refine wpAnyH_take (i := 4) (v := .bool false) rfl (by kernel_rfl) (by kernel_rfl) (by kernel_rfl) (fun _ _ _ h => h) (Or.inl ⟨by kernel_rfl, fun w' hw => by (obtain ⟨z0, z1⟩ := hw; go_simp)⟩) hS ?_
        refine wpAnyH_take (i := 5) (v := .string s) rfl (by kernel_rfl) (by kernel_rfl) (by kernel_rfl) (fun _ _ _ h => h) (Or.inl ⟨by kernel_rfl, fun w' hw => by (obtain ⟨z0, z1⟩ := hw; go_simp)⟩) hS ?_
        refine wpAnyH_take (i := 7) (v := .slice a1 NC c1) rfl (by kernel_rfl) (by kernel_rfl) (by kernel_rfl) (fun _ _ _ h => h) (Or.inl ⟨by kernel_rfl, fun w' hw => by (obtain ⟨z0, z1⟩ := hw; go_simp)⟩) hS ?_
        refine wpAnyH_ready (rs := [6]) (by kernel_rfl) (by simp) ?_
        refine AllReadyH.cons rfl (fun K hK => ?_) AllReadyH.nil
        rw [if_pos (by kernel_rfl)]
        go_simp
        go_wp2_with (go_at_call 17; refine (KR.out _).mono ?_; rintro e X3 ⟨⟨gs, rfl, hgs⟩, hB3⟩)
        replace hBq := bseq hBq hB3
        have hS := MK.out _ hBq
        refine hK.out _ _ hS (fun _ => ?_)
        clear hK K
        refine wpAnyH_ready (rs := [8]) (by kernel_rfl) (by simp) ?_
        refine AllReadyH.cons rfl (fun K hK => ?_) AllReadyH.nil
        rw [if_pos (by kernel_rfl)]
        go_simp
        go_wp2_with (go_at_call 16; refine (KSM.out _ _ _ _ _ hgs (HSU.out _ hBq)).mono ?_; rintro e X4 ⟨rfl, hB4⟩)
        replace hBq := bseq hBq hB4
        have hS := MK.out _ hBq
        refine hK.out _ _ hS (fun _ => ?_)
        clear hK K
        clear hgs
        refine wpAnyH_take (i := 9) (v := .bool false) rfl (by kernel_rfl) (by kernel_rfl) (by kernel_rfl) (fun _ _ _ h => h) (Or.inl ⟨by kernel_rfl, fun w' hw => by (obtain ⟨z0, z1⟩ := hw; go_simp)⟩) hS ?_
        refine wpAnyH_take (i := 10) (v := .bool false) rfl (by kernel_rfl) (by kernel_rfl) (by kernel_rfl) (fun _ _ _ h => h) (Or.inl ⟨by kernel_rfl, fun w' hw => by (obtain ⟨z0, z1⟩ := hw; go_simp)⟩) hS ?_
        refine wpAnyH_take (i := 11) (v := .bool false) rfl (by kernel_rfl) (by kernel_rfl) (by kernel_rfl) (fun _ _ _ h => h) (Or.inl ⟨by kernel_rfl, fun w' hw => by (obtain ⟨z0, z1⟩ := hw; go_simp)⟩) hS ?_
        refine wpAnyH_take (i := 12) (v := .string s) rfl (by kernel_rfl) (by kernel_rfl) (by kernel_rfl) (fun _ _ _ h => h) (Or.inl ⟨by kernel_rfl, fun w' hw => by (obtain ⟨z0, z1⟩ := hw; go_simp)⟩) hS ?_
        refine wpAnyH_take (i := 14) (v := .slice a1 NC c1) rfl (by kernel_rfl) (by kernel_rfl) (by kernel_rfl) (fun _ _ _ h => h) (Or.inl ⟨by kernel_rfl, fun w' hw => by (obtain ⟨z0, z1⟩ := hw; go_simp)⟩) hS ?_
        obtain ⟨c, hc1⟩ := KCV.out X4
        refine wpAnyH_ready (rs := [13]) (by kernel_rfl) (by simp) ?_
        refine AllReadyH.cons rfl (fun K hK => ?_) AllReadyH.nil
        rw [if_pos (by kernel_rfl)]
        go_simp
        have hBA : Below X4.heap.size X4 (X4.alloc (.cells (((runesZ (bl s)).map R32).toArray ++ Array.replicate (c - NC) (.int .i32 0)) 21)).drew := ((Below.refl _ X4).alloc (Nat.le_refl _) _).drew
        replace hBq := bseq hBq hBA
        have hS := MK.out _ hBq
        refine hK.out _ _ hS (fun _ => ?_)
        clear hK K
        have hgn : SlU (X4.alloc (.cells (((runesZ (bl s)).map R32).toArray ++ Array.replicate (c - NC) (.int .i32 0)) 21)).drew (some ⟨X4.heap.size, 0, none⟩) (runesZ (bl s)) := slu_new X4 (runesZ (bl s)) _
        generalize (X4.alloc (.cells (((runesZ (bl s)).map R32).toArray ++ Array.replicate (c - NC) (.int .i32 0)) 21)).drew = X5 at *
        clear hc1
        refine wpAnyH_ready (rs := [15]) (by kernel_rfl) (by simp) ?_
        refine AllReadyH.cons rfl (fun K hK => ?_) AllReadyH.nil
        rw [if_pos (by kernel_rfl)]
        go_simp
        go_wp2_with (go_at_call 16; refine (KSM.out _ _ _ _ _ hgn (HSU.out _ hBq)).mono ?_; rintro e X6 ⟨rfl, hB6⟩)
        replace hBq := bseq hBq hB6
        have hS := MK.out _ hBq
        refine hK.out _ _ hS (fun _ => ?_)
        clear hK K
        clear hgn
        refine wpAnyH_take (i := 16) (v := .bool false) rfl (by kernel_rfl) (by kernel_rfl) (by kernel_rfl) (fun _ _ _ h => h) (Or.inl ⟨by kernel_rfl, fun w' hw => by (obtain ⟨z0, z1⟩ := hw; go_simp)⟩) hS ?_
        refine wpAnyH_take (i := 17) (v := .bool false) rfl (by kernel_rfl) (by kernel_rfl) (by kernel_rfl) (fun _ _ _ h => h) (Or.inl ⟨by kernel_rfl, fun w' hw => by (obtain ⟨z0, z1⟩ := hw; go_simp)⟩) hS ?_
        refine wpAnyH_done (by kernel_rfl) (noPan_normal ?_) _
        try simp only [Act.put, List.getElem_toArray, List.getElem_cons_zero, List.getElem_cons_succ, List.setIfInBounds_toArray, List.set_cons_zero, List.set_cons_succ]
        have hG6 := HG.out.below hBq
        have HG6 := hide hG6
        clear hS hBq KC KR KSM KCV MK HSU HG
        have cp := hG6.2.2.2.1.1.cell
        clear hG6
        gi_wp2_with (first | (refine ⟨trivial, ?_⟩; gi_at_call 8; refine (uall_in s _).mono ?_; rintro e w' ⟨rfl, rfl⟩) | (gi_at_builtin; refine wpListIn_append_own _ rfl _ _ 33 rfl (w1.heap.size + 4) 3 j0 (.int .i64 0) 1 8 Try.underlying33 hj hy0 hy1 hy2 rfl (by decide) v2 NC _ rfl (HG6.out.2.2.2.1.2.alloc _) ⟨X6.heap.size, 0, none⟩ 1 1 [.int .i64 (s.size : Int)] rfl rfl (cell_one_new _ _ _) (by simp [Value.oneCell']) (by simp only [maxLen]; omega) (by omega) (by have := HG6.out.2.2.2.2.2; simp; omega) ?_; intro v2' w8 hown2 hg2 _; obtain ⟨gv2, gc2, rfl⟩ := row_valT hown2; obtain ⟨⟨c8, f8⟩, hG9⟩ := HG6.out.row2 hg2 hown2; replace hG9 := hide hG9))
        have hG0 := hG9.out
        have hpv : (Cs 0 (bl s)).map I64e ++ [.int .i64 (s.size : Int)] = (PLi 0 (bl s)).map (Value.int .i64) := by
          unfold PLi
          rw [List.map_append, List.map_map, Nat.zero_add, bl_len]; rfl
        rw [hpv] at hG0
        have hPl : (PLi 0 (bl s)).length = NC + 1 := by rw [PLi_len, HNC.out]
        have hsn := slnV hG0.2.2.2.1.2 hPl
        have hsr := (sluB hG0.2.2.1.2 HZL.out)
        obtain ⟨a1', c1', e1, hsr⟩ := hsr
        cases e1
        clear hpv HG6 cp c8 f8 hg2 hown2 hG9
        obtain ⟨X0, hX0⟩ : ∃ X0, w8.setCell ⟨w1.heap.size + 2, 0, none⟩ (.slice (some ⟨gv2, 0, none⟩) (NC + 1) gc2) = X0 := ⟨_, rfl⟩
        have hxs : w8.heap.size = X0.heap.size := by rw [← hX0]; simp [World.setCell]
        rw [hX0] at hG0 hsn hsr ⊢
        clear hX0
        simp only [hxs]
        clear hxs
        have facts : ∀ X, Below X0.heap.size X0 X → Boxed X w.heap.size 4 (.bool false) ∧ Boxed X w1.heap.size 3 (.int .i64 (NC : Int)) ∧ Boxed X (w1.heap.size + 1) 32 (.slice a1 NC c1) ∧ Boxed X (w1.heap.size + 2) 33 (.slice (some ⟨gv2, 0, none⟩) (NC + 1) gc2) ∧ SlU X a1 (runesZ (bl s)) ∧ SlN X (some ⟨gv2, 0, none⟩) (PLi 0 (bl s)) ∧ Below w.heap.size w X := fun X hX => by
          have hg := hG0.below hX
          obtain ⟨k1, k2⟩ := F1.out X hg.2.2.2.2.1
          exact ⟨k1, hg.2.1, hg.2.2.1.1, hg.2.2.2.1.1, hsr.below hX, hsn.below hX, k2⟩
        have hX04 : w1.heap.size + 4 ≤ X0.heap.size := hG0.2.2.2.2.2
        have FX := hide facts
        clear facts hG0 hsn hsr F1
        have bn := (Boxed.new X0 3 (.int .i64 0)).alloc (.cells #[.string s] 9)
        have bs := Boxed.new (X0.alloc (.cells #[.int .i64 0] 3)) 9 (.string s)
        have hBn : Below X0.heap.size X0 ((X0.alloc (.cells #[.int .i64 0] 3)).alloc (.cells #[.string s] 9)) := ((Below.refl _ X0).alloc (Nat.le_refl _) _).alloc (by simp) _
        have hszn : ((X0.alloc (.cells #[.int .i64 0] 3)).alloc (.cells #[.string s] 9)).heap.size = X0.heap.size + 2 := by simp
        simp only [World.size_alloc] at bs
        generalize (X0.alloc (.cells #[.int .i64 0] 3)).alloc (.cells #[.string s] 9) = WA at *
        apply rangeX (gf := 27) (lb := #[.pointer (some ⟨X0.heap.size + 1, 0, none⟩)]) (encs := encC) rfl (enters_of Try.func27 (by kernel_rfl) rfl)
          (uall_x (fun _ => False) (fun k => k = X0.heap.size + 1) (X0.heap.size + 1) s WA (by omega) (by omega) bs.cell) (Below.refl _ _) (fun k h => by omega) (fun _ => rfl)
          (fun pre X => Boxed X X0.heap.size 3 (.int .i64 (pre.length : Int)) ∧ Below X0.heap.size X0 X)
          (fun c pre X => False)
          (Stab.and (Stab.boxed _ _ (by omega)) (Stab.below (by omega) (Nat.le_refl _)))
          (fun c => Stab.pure (fun _ => False))
          ⟨bn, hBn⟩
        case hassign =>
          intro l' x X K hK
          simp only [encC]
          gi_wp2
          exact hK
        case hstop => rintro D c pre X hD hpre h; exact h.elim
        case hbody =>
          rintro l' pre x X ⟨hn, hBX⟩ hpx
          obtain ⟨hpl, hget⟩ := take_of_preT hpx
          obtain ⟨h0, h1, h2, h3, hsu, hsn, hBw⟩ := FX.out X hBX
          rw [HNC.out] at hpl
          obtain ⟨br, or, rfl, hcr⟩ := hsu.get (k := pre.length) (by rw [HZL.out]; exact hpl)
          obtain ⟨bp, op, ebp, hcp⟩ := hsn.get (k := pre.length) (by rw [hPl]; omega)
          cases ebp
          have y0 := hcp _ _ (PLi_here 0 _ _ _ hget)
          have y1 := hcr _ _ (runesZ_get hget)
          simp only [Nat.zero_add] at y0
          have cn := hn.cell
          have fn' := hn.frozen
          have c1 := h1.cell
          have c2 := h2.cell
          have c3 := h3.cell
          have hltI : (pre.length : Int) < (NC : Int) := by omega
          have hltJ : (pre.length : Int) < (NC : Int) + 1 := by omega
          have hne : ((x.1 : Int) != (x.1 : Int)) = false := by simp
          have hne2 : ((x.2.1 : Int) != (x.2.1 : Int)) = false := by simp
          have HX := hide (And.intro hn hBX)
          clear hcr hcp hsu hsn h0 h1 h2 h3 hBw hn hBX hget hpx hBn bn bs
          gi_wp2
          obtain ⟨hn, hBX⟩ := HX.out
          refine ⟨Kp.set _ (fun h => by omega) (by omega), ?_, hBX.setCell (p := ⟨X0.heap.size, 0, none⟩) (Nat.le_refl _) _⟩
          have := hn.set (.int .i64 ((pre.length : Int) + 1))
          simpa using this
        case hdone =>
          rintro DA XA hDA ⟨hn, hBX⟩ hKA
          rw [HNC.out] at hn
          clear bn hBn bs
          obtain ⟨h0, h1, h2, h3, hsu, hsn, hBw⟩ := FX.out XA hBX
          have cn := hn.cell
          have c1 := h1.cell
          have hlA := (Array.getElem?_eq_some_iff.1 hKA).1
          have HK := hide (And.intro hKA (And.intro hn hBX))
          clear hKA hn hBX h0 h1 h2 h3 hsu hsn hBw
          gi_wp2_with (refine ⟨trivial, ?_⟩; gi_at_call 9; refine (uback_in s _).mono ?_; rintro e w' ⟨rfl, rfl⟩)
          obtain ⟨hKA, hn, hBX⟩ := HK.out
          have hszXA := hBX.size
          have bn := hn.alloc (.cells #[.string s] 9)
          have bs := Boxed.new XA 9 (.string s)
          have hBn : Below X0.heap.size X0 (XA.alloc (.cells #[.string s] 9)) := hBX.alloc (by omega) _
          have hKs : (XA.alloc (.cells #[.string s] 9)).heap[DA]? = some (.deferred (some [])) := (((Below.refl _ XA).alloc (Nat.le_refl _) (.cells #[.string s] 9)).block DA hlA).trans hKA
          have hszn2 : (XA.alloc (.cells #[.string s] 9)).heap.size = XA.heap.size + 1 := by simp
          generalize XA.alloc (.cells #[.string s] 9) = WB at *
          clear hKA hn hBX HK cn c1
          apply rangeX (gf := 28) (lb := #[.pointer (some ⟨XA.heap.size, 0, none⟩)]) (encs := encC) rfl (enters_of Try.func28 (by kernel_rfl) rfl)
            (uback_x (fun _ => False) (fun k => k = XA.heap.size) XA.heap.size s WB (by omega) rfl (by omega) bs.cell) (Below.refl _ _) (fun k h => by omega) (fun _ => rfl)
            (fun pre Y => (Boxed Y X0.heap.size 3 (.int .i64 ((NC : Int) - (pre.length : Int))) ∧ Y.heap[DA]? = some (.deferred (some []))) ∧ Below X0.heap.size X0 Y)
            (fun c pre Y => False)
            (Stab.and (Stab.and (Stab.boxed _ _ (by omega)) (Stab.at _ (by omega))) (Stab.below (by omega) (Nat.le_refl _)))
            (fun c => Stab.pure (fun _ => False))
            ⟨⟨by simpa using bn, hKs⟩, hBn⟩
          case hassign =>
            intro l' x X K hK
            simp only [encC]
            gi_wp2
            exact hK
          case hstop => rintro D c pre X hD hpre h; exact h.elim
          case hbody =>
            rintro l' pre x X ⟨⟨hn, hKD⟩, hBX⟩ hpx
            obtain ⟨hpl, hget⟩ := take_of_preT hpx
            rw [List.length_reverse] at hpl
            rw [List.getElem?_reverse hpl] at hget
            rw [HNC.out] at hget hpl
            obtain ⟨j, hjd⟩ : ∃ j, NC - 1 - pre.length = j := ⟨_, rfl⟩
            rw [hjd] at hget
            have hjl : j < NC := by omega
            obtain ⟨h0, h1, h2, h3, hsu, hsn, hBw⟩ := FX.out X hBX
            obtain ⟨br, or, rfl, hcr⟩ := hsu.get (k := j) (by rw [HZL.out]; exact hjl)
            obtain ⟨bp, op, ebp, hcp⟩ := hsn.get (k := j) (by rw [hPl]; omega)
            cases ebp
            have y0 := hcp _ _ (PLi_here 0 _ _ _ hget)
            have y1 := hcr _ _ (runesZ_get hget)
            simp only [Nat.zero_add] at y0
            have cn := hn.cell
            have fn' := hn.frozen
            have hjI : (NC : Int) - (pre.length : Int) = (j : Int) + 1 := by omega
            have hlNX : w1.heap.size + 4 ≤ X0.heap.size := hX04
            have cn' := (hn.set (.int .i64 (j : Int))).cell
            have c2' := (h2.other (B' := X0.heap.size) (by omega) (.int .i64 (j : Int))).cell
            have c3' := (h3.other (B' := X0.heap.size) (by omega) (.int .i64 (j : Int))).cell
            have hlr : br < X.heap.size := World.block_lt_of_cell? X _ y1
            rw [hjI] at cn
            have hbr : br ≠ X0.heap.size := fun e => by
              have hb : X.cell? ⟨X0.heap.size, or + j, none⟩ = some (.int .i32 (x.2.1 : Int)) := by rw [← e]; exact y1
              have hb2 : X.heap[X0.heap.size]? = _ := hn
              simp only [World.cell?, hb2] at hb
              cases hq : or + j with
              | zero => rw [hq] at hb; simp at hb
              | succ m => rw [hq] at hb; simp at hb
            have hbp : gv2 ≠ X0.heap.size := fun e => by
              have hlt := (Array.getElem?_eq_some_iff.1 (show _ = some _ from (FX.out X0 (Below.refl _ _)).2.2.2.1)).1
              obtain ⟨b', o', eb', hc'⟩ := (FX.out X0 (Below.refl _ _)).2.2.2.2.2.1.get (k := j) (by rw [hPl]; omega)
              cases eb'
              have := World.block_lt_of_cell? X0 _ (hc' _ _ (PLi_here 0 _ _ _ hget))
              have h9 : gv2 < X0.heap.size := this
              omega
            have y0' : (X.setCell ⟨X0.heap.size, 0, none⟩ (.int .i64 (j : Int))).cell? ⟨gv2, j, none⟩ = some (.int .i64 (x.1 : Int)) := by
              have hg := grownBy_setCell' X X0.heap.size (.int .i64 (j : Int))
              exact hg.cell y0 (fun e => hbp (by simpa using e))
            have y1' : (X.setCell ⟨X0.heap.size, 0, none⟩ (.int .i64 (j : Int))).cell? ⟨br, or + j, none⟩ = some (.int .i32 (x.2.1 : Int)) := by
              have hg := grownBy_setCell' X X0.heap.size (.int .i64 (j : Int))
              exact hg.cell y1 (fun e => hbr (by simpa using e))
            have hltI : (j : Int) < (NC : Int) := by omega
            have hltJ : (j : Int) < (NC : Int) + 1 := by omega
            have hne : ((x.1 : Int) != (x.1 : Int)) = false := by simp
            have hne2 : ((x.2.1 : Int) != (x.2.1 : Int)) = false := by simp
            have hj1 : (j : Int) + 1 - 1 = (j : Int) := by omega
            have HX := hide (And.intro hn (And.intro hKD hBX))
            have HJI := hide hjI
            clear hjd hcr hcp hsu hsn h0 h1 h2 h3 hBw hn hBX hget hpx hBn bn bs hKs hKD y0 y1 hbr hbp hjI
            gi_wp2
            obtain ⟨hn, hKD, hBX⟩ := HX.out
            refine ⟨Kp.set _ (fun h => by omega) (by omega), ⟨?_, ((grownBy_setCell' X X0.heap.size _).block DA (Array.getElem?_eq_some_iff.1 hKD).1 (fun e => by have := Option.some.inj e; omega)).trans hKD⟩, hBX.setCell (p := ⟨X0.heap.size, 0, none⟩) (Nat.le_refl _) _⟩
            have := hn.set (.int .i64 (j : Int))
            have e9 : ((NC : Int) - ((pre ++ [x]).length : Int)) = (j : Int) := by have := HJI.out; simp; omega
            rw [e9]
            exact this
          case hdone =>
            rintro DB XB hDB ⟨⟨hn, hKA⟩, hBX⟩ hKB
            rw [List.length_reverse, HNC.out, Int.sub_self] at hn
            clear bn hBn bs hKs
            obtain ⟨h0, h1, h2, h3, hsu, hsn, hBw⟩ := FX.out XB hBX
            have cn := hn.cell
            have hlA2 := (Array.getElem?_eq_some_iff.1 hKA).1
            have hlB := (Array.getElem?_eq_some_iff.1 hKB).1
            have HK := hide (And.intro hKB (And.intro hKA (And.intro hn hBX)))
            clear hKB hKA hn hBX h0 h1 h2 h3 hsu hsn hBw
            gi_wp2_with (refine ⟨trivial, ?_⟩; gi_at_call 18; refine (uwrong_in s _).mono ?_; rintro e w' ⟨rfl, rfl⟩)
            obtain ⟨hKB, hKA, hn, hBX⟩ := HK.out
            have hszXB := hBX.size
            have bn := hn.alloc (.cells #[.string s] 9)
            have bs := Boxed.new XB 9 (.string s)
            have hBn : Below X0.heap.size X0 (XB.alloc (.cells #[.string s] 9)) := hBX.alloc (by omega) _
            have hBal := (Below.refl _ XB).alloc (Nat.le_refl _) (.cells #[.string s] 9)
            have hKAs : (XB.alloc (.cells #[.string s] 9)).heap[DA]? = some (.deferred (some [])) := (hBal.block DA hlA2).trans hKA
            have hKBs : (XB.alloc (.cells #[.string s] 9)).heap[DB]? = some (.deferred (some [])) := (hBal.block DB hlB).trans hKB
            have hszn3 : (XB.alloc (.cells #[.string s] 9)).heap.size = XB.heap.size + 1 := by simp
            generalize XB.alloc (.cells #[.string s] 9) = WC at *
            clear hKA hKB hn hBX HK cn hBal
            apply rangeX (gf := 31) (lb := #[.pointer (some ⟨XB.heap.size, 0, none⟩)]) (encs := encW) rfl (enters_of Try.func31 (by kernel_rfl) rfl)
              (uwrong_x (fun _ => False) (fun k => k = XB.heap.size) XB.heap.size s WC (by omega) rfl (by omega) bs.cell) (Below.refl _ _) (fun k h => by omega) (fun _ => rfl)
              (fun pre Y => (∃ κ : Nat, (κ ≤ NC ∧ ((Cs 0 (bl s)).take κ).filter isW = pre) ∧ Boxed Y X0.heap.size 3 (.int .i64 (κ : Int))) ∧ ((Y.heap[DA]? = some (.deferred (some [])) ∧ Y.heap[DB]? = some (.deferred (some []))) ∧ Below X0.heap.size X0 Y))
              (fun c pre Y => False)
              (Stab.and (Stab.ex fun κ => Stab.and (Stab.pure (fun pre => κ ≤ NC ∧ ((Cs 0 (bl s)).take κ).filter isW = pre)) (Stab.box _ _ (by omega))) (Stab.and (Stab.and (Stab.at _ (by omega)) (Stab.at _ (by omega))) (Stab.below (by omega) (Nat.le_refl _))))
              (fun c => Stab.pure (fun _ => False))
              ⟨⟨0, ⟨by omega, rfl⟩, bn⟩, ⟨hKAs, hKBs⟩, hBn⟩
            case hassign =>
              intro l' x X K hK
              simp only [encW]
              gi_wp2
              exact hK
            case hstop => rintro D c pre X hD hpre h; exact h.elim
            case hbody =>
              rintro l' pre x X ⟨⟨κ, ⟨hκ, hfil⟩, hn⟩, ⟨hKA, hKB⟩, hBX⟩ hpx
              have HPX := hide hpx
              have HX := hide (And.intro hn (And.intro hKA (And.intro hKB hBX)))
              have HFIL := hide (And.intro hκ hfil)
              clear hn hKA hKB hBX hpx hfil bn bs hBn hKAs hKBs hκ
              gi_wp2
              gi_loopw [] (fun wr => ∃ k : Nat, (k ≤ NC ∧ ((Cs 0 (bl s)).take k).filter isW = pre) ∧ Boxed wr X0.heap.size 3 (.int .i64 (k : Int)) ∧ (wr.heap[DA]? = some (.deferred (some [])) ∧ wr.heap[DB]? = some (.deferred (some []))) ∧ Below X0.heap.size X0 wr ∧ Kp (fun _ => False) (fun k => k = XB.heap.size) WC.heap.size X wr) (fun wr => NC - (intOf ((wr.cell? ⟨X0.heap.size, 0, none⟩).getD undef)).toNat)
              case atStart =>
                obtain ⟨hn, hKA, hKB, hBX⟩ := HX.out
                exact ⟨κ, HFIL.out, hn, ⟨hKA, hKB⟩, hBX, Kp.refl _ _ _ _⟩
              case round =>
                obtain ⟨k, ⟨hk, hfil⟩, hn, ⟨hKA, hKB⟩, hBr, hKp⟩ := hrel
                by_cases hlt : k < NC
                · obtain ⟨⟨ea, er, ew⟩, he⟩ : ∃ e, (Cs 0 (bl s))[k]? = some e := ⟨_, List.getElem?_eq_getElem (by rw [HNC.out]; exact hlt)⟩
                  obtain ⟨h0, h1, h2, h3, hsu, hsn, hBw⟩ := FX.out wr hBr
                  obtain ⟨br, or, rfl, hcr⟩ := hsu.get (k := k) (by rw [HZL.out]; exact hlt)
                  obtain ⟨bp, op, ebp, hcp⟩ := hsn.get (k := k) (by rw [hPl]; omega)
                  cases ebp
                  have y0 := hcp _ _ (PLi_here 0 _ _ _ he)
                  have y2 := hcp _ _ (PLi_next _ 0 _ _ he)
                  have y1 := hcr _ _ (runesZ_get he)
                  simp only [Nat.zero_add] at y0 y2
                  push_cast at y2
                  have cn := hn.cell
                  have fn' := hn.frozen
                  have d1 := h1.cell
                  have d2 := h2.cell
                  have d3 := h3.cell
                  have hS0 : wr.drew.cell? ⟨X0.heap.size, 0, none⟩ = some (.int .i64 (k : Int)) ∧ wr.drew.cell? ⟨w1.heap.size, 0, none⟩ = some (.int .i64 (NC : Int)) ∧ wr.drew.cell? ⟨w1.heap.size + 1, 0, none⟩ = some (.slice (some ⟨br, or, none⟩) NC c1) ∧ wr.drew.cell? ⟨w1.heap.size + 2, 0, none⟩ = some (.slice (some ⟨gv2, 0, none⟩) (NC + 1) gc2) ∧ wr.drew.cell? ⟨br, or + k, none⟩ = some (.int .i32 (er : Int)) ∧ wr.drew.cell? ⟨gv2, k, none⟩ = some (.int .i64 (ea : Int)) ∧ wr.drew.cell? ⟨gv2, k + 1, none⟩ = some (.int .i64 ((ea : Int) + (ew : Int))) := ⟨cn, d1, d2, d3, y1, y0, y2⟩
                  have hltI : (k : Int) < (NC : Int) := by omega
                  have hltJ : (k : Int) + 1 < (NC : Int) + 1 := by omega
                  have hltJ2 : (k : Int) < (NC : Int) + 1 := by omega
                  have hsub : (ea : Int) + (ew : Int) - (ea : Int) = (ew : Int) := by omega
                  have hwb := (Cs_mem (bl s) 0 _ (List.mem_of_getElem? he))
                  have hewI : (ew : Int) ≤ 4 := by have := hwb.2.2.2.1; simp only at this; omega
                  have hwk : IntKind.i64.wrap ((k : Int) + 1) = (k : Int) + 1 := by rw [IntKind.wrap_i64]; omega
                  have hwe : IntKind.i64.wrap (ew : Int) = (ew : Int) := by rw [IntKind.wrap_i64]; omega
                  have HH := hide (And.intro hn (And.intro (And.intro hKA hKB) (And.intro hBr hKp)))
                  have HE := hide he
                  have HFI := hide hfil
                  clear hn hKA hKB hBr hKp hfil he hcp hcr hsu hsn h0 h1 h2 h3 hBw hwb d1 d2 d3
                  by_cases hr0 : er = 65533
                  · have hq1 : ((er : Int) != 65533) = false := by simp [hr0]
                    by_cases hw0 : ew = 1
                    · have hq2 : ((ew : Int) != 1) = false := by simp [hw0]
                      have hiw := isW_yes (e := (ea, er, ew)) hr0 hw0
                      have hx := wr_same HFI.out HE.out hiw HPX.out
                      have hxe : (x.1 : Int) = (ea : Int) := by rw [hx]
                      have hq3 : ((ea : Int) != (x.1 : Int)) = false := by rw [hxe]; simp
                      have HFX := hide (show ((Cs 0 (bl s)).take (k + 1)).filter isW = pre ++ [x] by rw [hx]; exact wr_hit HFI.out HE.out hiw)
                      clear hr0 hw0 hiw hx hxe
                      gi_wp2_with (fail)
                      refine Code.wpIn_mono noPO_le ?_
                      refine region_heldR (fun W => W.cell? ⟨X0.heap.size, 0, none⟩ = some (.int .i64 (k : Int)) ∧ W.cell? ⟨w1.heap.size, 0, none⟩ = some (.int .i64 (NC : Int)) ∧ W.cell? ⟨w1.heap.size + 1, 0, none⟩ = some (.slice (some ⟨br, or, none⟩) NC c1) ∧ W.cell? ⟨w1.heap.size + 2, 0, none⟩ = some (.slice (some ⟨gv2, 0, none⟩) (NC + 1) gc2) ∧ W.cell? ⟨br, or + k, none⟩ = some (.int .i32 (er : Int)) ∧ W.cell? ⟨gv2, k, none⟩ = some (.int .i64 (ea : Int)) ∧ W.cell? ⟨gv2, k + 1, none⟩ = some (.int .i64 ((ea : Int) + (ew : Int)))) (by kernel_rfl) (by kernel_rfl) (fun a w h => h) hS0 (fun hS => ?_)
                      clear hS0
                      refine wpAnyH_take (i := 0) (v := .int .i64 (k : Int)) rfl (by kernel_rfl) (by kernel_rfl) (by kernel_rfl) (fun _ _ _ h => h) (Or.inl ⟨by kernel_rfl, fun w' hw => by (obtain ⟨z0, z1, z2, z3, z4, z5, z6⟩ := hw; go_simp)⟩) hS ?_
                      refine wpAnyH_take (i := 1) (v := .int .i64 (NC : Int)) rfl (by kernel_rfl) (by kernel_rfl) (by kernel_rfl) (fun _ _ _ h => h) (Or.inl ⟨by kernel_rfl, fun w' hw => by (obtain ⟨z0, z1, z2, z3, z4, z5, z6⟩ := hw; go_simp)⟩) hS ?_
                      refine wpAnyH_take (i := 2) (v := .bool true) rfl (by kernel_rfl) (by kernel_rfl) (by kernel_rfl) (fun _ _ _ h => h) (Or.inl ⟨by kernel_rfl, fun w' hw => by (obtain ⟨z0, z1, z2, z3, z4, z5, z6⟩ := hw; go_simp)⟩) hS ?_
                      refine wpAnyH_take (i := 3) (v := .bool true) rfl (by kernel_rfl) (by kernel_rfl) (by kernel_rfl) (fun _ _ _ h => h) (Or.inl ⟨by kernel_rfl, fun w' hw => by (obtain ⟨z0, z1, z2, z3, z4, z5, z6⟩ := hw; go_simp)⟩) hS ?_
                      refine wpAnyH_take (i := 4) (v := .slice (some ⟨br, or, none⟩) NC c1) rfl (by kernel_rfl) (by kernel_rfl) (by kernel_rfl) (fun _ _ _ h => h) (Or.inl ⟨by kernel_rfl, fun w' hw => by (obtain ⟨z0, z1, z2, z3, z4, z5, z6⟩ := hw; go_simp)⟩) hS ?_
                      refine wpAnyH_take (i := 5) (v := .int .i64 (k : Int)) rfl (by kernel_rfl) (by kernel_rfl) (by kernel_rfl) (fun _ _ _ h => h) (Or.inl ⟨by kernel_rfl, fun w' hw => by (obtain ⟨z0, z1, z2, z3, z4, z5, z6⟩ := hw; go_simp)⟩) hS ?_
                      refine wpAnyH_take (i := 6) (v := .pointer (some ⟨br, or + k, none⟩)) rfl (by kernel_rfl) (by kernel_rfl) (by kernel_rfl) (fun _ _ _ h => h) (Or.inl ⟨by kernel_rfl, fun w' hw => by (obtain ⟨z0, z1, z2, z3, z4, z5, z6⟩ := hw; go_simp)⟩) hS ?_
                      refine wpAnyH_take (i := 7) (v := .int .i32 (er : Int)) rfl (by kernel_rfl) (by kernel_rfl) (by kernel_rfl) (fun _ _ _ h => h) (Or.inl ⟨by kernel_rfl, fun w' hw => by (obtain ⟨z0, z1, z2, z3, z4, z5, z6⟩ := hw; go_simp)⟩) hS ?_
                      refine wpAnyH_take (i := 8) (v := .bool false) rfl (by kernel_rfl) (by kernel_rfl) (by kernel_rfl) (fun _ _ _ h => h) (Or.inl ⟨by kernel_rfl, fun w' hw => by (obtain ⟨z0, z1, z2, z3, z4, z5, z6⟩ := hw; go_simp)⟩) hS ?_
                      refine wpAnyH_take (i := 9) (v := .bool false) rfl (by kernel_rfl) (by kernel_rfl) (by kernel_rfl) (fun _ _ _ h => h) (Or.inl ⟨by kernel_rfl, fun w' hw => by (obtain ⟨z0, z1, z2, z3, z4, z5, z6⟩ := hw; go_simp)⟩) hS ?_
                      simp only [Act.put, List.getElem_toArray, List.getElem_cons_zero, List.getElem_cons_succ, List.setIfInBounds_toArray, List.set_cons_zero, List.set_cons_succ]
                      refine wpAnyH_take (i := 10) (v := .slice (some ⟨gv2, 0, none⟩) (NC + 1) gc2) rfl (by kernel_rfl) (by kernel_rfl) (by kernel_rfl) (fun _ _ _ h => h) (Or.inl ⟨by kernel_rfl, fun w' hw => by (obtain ⟨z0, z1, z2, z3, z4, z5, z6⟩ := hw; go_simp)⟩) hS ?_
                      refine wpAnyH_take (i := 11) (v := .int .i64 (k : Int)) rfl (by kernel_rfl) (by kernel_rfl) (by kernel_rfl) (fun _ _ _ h => h) (Or.inl ⟨by kernel_rfl, fun w' hw => by (obtain ⟨z0, z1, z2, z3, z4, z5, z6⟩ := hw; go_simp)⟩) hS ?_
                      refine wpAnyH_take (i := 12) (v := .int .i64 ((k : Int) + 1)) rfl (by kernel_rfl) (by kernel_rfl) (by kernel_rfl) (fun _ _ _ h => h) (Or.inl ⟨by kernel_rfl, fun w' hw => by (obtain ⟨z0, z1, z2, z3, z4, z5, z6⟩ := hw; go_simp)⟩) hS ?_
                      refine wpAnyH_take (i := 13) (v := .pointer (some ⟨gv2, k + 1, none⟩)) rfl (by kernel_rfl) (by kernel_rfl) (by kernel_rfl) (fun _ _ _ h => h) (Or.inl ⟨by kernel_rfl, fun w' hw => by (obtain ⟨z0, z1, z2, z3, z4, z5, z6⟩ := hw; go_simp <;> exact fun h => absurd h (by omega))⟩) hS ?_
                      refine wpAnyH_take (i := 14) (v := .int .i64 ((ea : Int) + (ew : Int))) rfl (by kernel_rfl) (by kernel_rfl) (by kernel_rfl) (fun _ _ _ h => h) (Or.inl ⟨by kernel_rfl, fun w' hw => by (obtain ⟨z0, z1, z2, z3, z4, z5, z6⟩ := hw; go_simp)⟩) hS ?_
                      simp only [Act.put, List.getElem_toArray, List.getElem_cons_zero, List.getElem_cons_succ, List.setIfInBounds_toArray, List.set_cons_zero, List.set_cons_succ]
                      refine wpAnyH_take (i := 15) (v := .slice (some ⟨gv2, 0, none⟩) (NC + 1) gc2) rfl (by kernel_rfl) (by kernel_rfl) (by kernel_rfl) (fun _ _ _ h => h) (Or.inl ⟨by kernel_rfl, fun w' hw => by (obtain ⟨z0, z1, z2, z3, z4, z5, z6⟩ := hw; go_simp)⟩) hS ?_
                      refine wpAnyH_take (i := 16) (v := .int .i64 (k : Int)) rfl (by kernel_rfl) (by kernel_rfl) (by kernel_rfl) (fun _ _ _ h => h) (Or.inl ⟨by kernel_rfl, fun w' hw => by (obtain ⟨z0, z1, z2, z3, z4, z5, z6⟩ := hw; go_simp)⟩) hS ?_
                      refine wpAnyH_take (i := 17) (v := .pointer (some ⟨gv2, k, none⟩)) rfl (by kernel_rfl) (by kernel_rfl) (by kernel_rfl) (fun _ _ _ h => h) (Or.inl ⟨by kernel_rfl, fun w' hw => by (obtain ⟨z0, z1, z2, z3, z4, z5, z6⟩ := hw; go_simp)⟩) hS ?_
                      refine wpAnyH_take (i := 18) (v := .int .i64 (ea : Int)) rfl (by kernel_rfl) (by kernel_rfl) (by kernel_rfl) (fun _ _ _ h => h) (Or.inl ⟨by kernel_rfl, fun w' hw => by (obtain ⟨z0, z1, z2, z3, z4, z5, z6⟩ := hw; go_simp)⟩) hS ?_
                      refine wpAnyH_take (i := 19) (v := .int .i64 (ew : Int)) rfl (by kernel_rfl) (by kernel_rfl) (by kernel_rfl) (fun _ _ _ h => h) (Or.inl ⟨by kernel_rfl, fun w' hw => by (obtain ⟨z0, z1, z2, z3, z4, z5, z6⟩ := hw; go_simp)⟩) hS ?_
                      simp only [Act.put, List.getElem_toArray, List.getElem_cons_zero, List.getElem_cons_succ, List.setIfInBounds_toArray, List.set_cons_zero, List.set_cons_succ]
                      refine wpAnyH_take (i := 20) (v := .bool false) rfl (by kernel_rfl) (by kernel_rfl) (by kernel_rfl) (fun _ _ _ h => h) (Or.inl ⟨by kernel_rfl, fun w' hw => by (obtain ⟨z0, z1, z2, z3, z4, z5, z6⟩ := hw; go_simp)⟩) hS ?_
                      refine wpAnyH_take (i := 21) (v := .bool false) rfl (by kernel_rfl) (by kernel_rfl) (by kernel_rfl) (fun _ _ _ h => h) (Or.inl ⟨by kernel_rfl, fun w' hw => by (obtain ⟨z0, z1, z2, z3, z4, z5, z6⟩ := hw; go_simp)⟩) hS ?_
                      refine wpAnyH_take (i := 22) (v := .bool false) rfl (by kernel_rfl) (by kernel_rfl) (by kernel_rfl) (fun _ _ _ h => h) (Or.inl ⟨by kernel_rfl, fun w' hw => by (obtain ⟨z0, z1, z2, z3, z4, z5, z6⟩ := hw; go_simp)⟩) hS ?_
                      refine wpAnyH_done (by kernel_rfl) (noPO_normal ?_) _
                      try simp only [Act.put, List.getElem_toArray, List.getElem_cons_zero, List.getElem_cons_succ, List.setIfInBounds_toArray, List.set_cons_zero, List.set_cons_succ]
                      have g1 : wr.drew.cell? ⟨w1.heap.size, 0, none⟩ = some (.int .i64 (NC : Int)) := hS.2.1
                      have g0 : wr.drew.cell? ⟨X0.heap.size, 0, none⟩ = some (.int .i64 (k : Int)) := hS.1
                      have g3 := hS.2.2.2.1
                      have g5 := hS.2.2.2.2.2.1
                      have gf : wr.drew.frozen? ⟨X0.heap.size, 0, none⟩ = false := fn'
                      clear hS
                      gi_wp2
                      obtain ⟨hn, ⟨hKA, hKB⟩, hBr, hKp⟩ := HH.out
                      have hl1 := (Array.getElem?_eq_some_iff.1 hKA).1
                      have hl2 := (Array.getElem?_eq_some_iff.1 hKB).1
                      have e1 : (((k + 1 : Nat) : Int)) = (k : Int) + 1 := by omega
                      refine ⟨(hKp.trans (Kp.set (.int .i64 ((k : Int) + 1)) (fun h => by omega) (by omega))).trans (Kp.of_below ((Below.refl _ _).drew)), ⟨k + 1, ⟨by omega, HFX.out⟩, by rw [e1]; exact hn.set (.int .i64 ((k : Int) + 1))⟩, ⟨((grownBy_setCell' wr X0.heap.size (.int .i64 ((k : Int) + 1))).block DA hl1 (fun e => by have := Option.some.inj e; omega)).trans hKA, ((grownBy_setCell' wr X0.heap.size (.int .i64 ((k : Int) + 1))).block DB hl2 (fun e => by have := Option.some.inj e; omega)).trans hKB⟩, (hBr.setCell (p := ⟨X0.heap.size, 0, none⟩) (Nat.le_refl _) (.int .i64 ((k : Int) + 1))).drew⟩
                    · have hq2 : ((ew : Int) != 1) = true := by simp; omega
                      have hi := isW_no2 (e := (ea, er, ew)) hw0
                      clear hr0
                      gi_wp2_with (fail)
                      refine Code.wpIn_mono noPO_le ?_
                      refine region_heldR (fun W => W.cell? ⟨X0.heap.size, 0, none⟩ = some (.int .i64 (k : Int)) ∧ W.cell? ⟨w1.heap.size, 0, none⟩ = some (.int .i64 (NC : Int)) ∧ W.cell? ⟨w1.heap.size + 1, 0, none⟩ = some (.slice (some ⟨br, or, none⟩) NC c1) ∧ W.cell? ⟨w1.heap.size + 2, 0, none⟩ = some (.slice (some ⟨gv2, 0, none⟩) (NC + 1) gc2) ∧ W.cell? ⟨br, or + k, none⟩ = some (.int .i32 (er : Int)) ∧ W.cell? ⟨gv2, k, none⟩ = some (.int .i64 (ea : Int)) ∧ W.cell? ⟨gv2, k + 1, none⟩ = some (.int .i64 ((ea : Int) + (ew : Int)))) (by kernel_rfl) (by kernel_rfl) (fun a w h => h) hS0 (fun hS => ?_)
                      clear hS0
                      refine wpAnyH_take (i := 0) (v := .int .i64 (k : Int)) rfl (by kernel_rfl) (by kernel_rfl) (by kernel_rfl) (fun _ _ _ h => h) (Or.inl ⟨by kernel_rfl, fun w' hw => by (obtain ⟨z0, z1, z2, z3, z4, z5, z6⟩ := hw; go_simp)⟩) hS ?_
                      refine wpAnyH_take (i := 1) (v := .int .i64 (NC : Int)) rfl (by kernel_rfl) (by kernel_rfl) (by kernel_rfl) (fun _ _ _ h => h) (Or.inl ⟨by kernel_rfl, fun w' hw => by (obtain ⟨z0, z1, z2, z3, z4, z5, z6⟩ := hw; go_simp)⟩) hS ?_
                      refine wpAnyH_take (i := 2) (v := .bool true) rfl (by kernel_rfl) (by kernel_rfl) (by kernel_rfl) (fun _ _ _ h => h) (Or.inl ⟨by kernel_rfl, fun w' hw => by (obtain ⟨z0, z1, z2, z3, z4, z5, z6⟩ := hw; go_simp)⟩) hS ?_
                      refine wpAnyH_take (i := 3) (v := .bool true) rfl (by kernel_rfl) (by kernel_rfl) (by kernel_rfl) (fun _ _ _ h => h) (Or.inl ⟨by kernel_rfl, fun w' hw => by (obtain ⟨z0, z1, z2, z3, z4, z5, z6⟩ := hw; go_simp)⟩) hS ?_
                      refine wpAnyH_take (i := 4) (v := .slice (some ⟨br, or, none⟩) NC c1) rfl (by kernel_rfl) (by kernel_rfl) (by kernel_rfl) (fun _ _ _ h => h) (Or.inl ⟨by kernel_rfl, fun w' hw => by (obtain ⟨z0, z1, z2, z3, z4, z5, z6⟩ := hw; go_simp)⟩) hS ?_
                      refine wpAnyH_take (i := 5) (v := .int .i64 (k : Int)) rfl (by kernel_rfl) (by kernel_rfl) (by kernel_rfl) (fun _ _ _ h => h) (Or.inl ⟨by kernel_rfl, fun w' hw => by (obtain ⟨z0, z1, z2, z3, z4, z5, z6⟩ := hw; go_simp)⟩) hS ?_
                      refine wpAnyH_take (i := 6) (v := .pointer (some ⟨br, or + k, none⟩)) rfl (by kernel_rfl) (by kernel_rfl) (by kernel_rfl) (fun _ _ _ h => h) (Or.inl ⟨by kernel_rfl, fun w' hw => by (obtain ⟨z0, z1, z2, z3, z4, z5, z6⟩ := hw; go_simp)⟩) hS ?_
                      refine wpAnyH_take (i := 7) (v := .int .i32 (er : Int)) rfl (by kernel_rfl) (by kernel_rfl) (by kernel_rfl) (fun _ _ _ h => h) (Or.inl ⟨by kernel_rfl, fun w' hw => by (obtain ⟨z0, z1, z2, z3, z4, z5, z6⟩ := hw; go_simp)⟩) hS ?_
                      refine wpAnyH_take (i := 8) (v := .bool false) rfl (by kernel_rfl) (by kernel_rfl) (by kernel_rfl) (fun _ _ _ h => h) (Or.inl ⟨by kernel_rfl, fun w' hw => by (obtain ⟨z0, z1, z2, z3, z4, z5, z6⟩ := hw; go_simp)⟩) hS ?_
                      refine wpAnyH_take (i := 9) (v := .bool false) rfl (by kernel_rfl) (by kernel_rfl) (by kernel_rfl) (fun _ _ _ h => h) (Or.inl ⟨by kernel_rfl, fun w' hw => by (obtain ⟨z0, z1, z2, z3, z4, z5, z6⟩ := hw; go_simp)⟩) hS ?_
                      simp only [Act.put, List.getElem_toArray, List.getElem_cons_zero, List.getElem_cons_succ, List.setIfInBounds_toArray, List.set_cons_zero, List.set_cons_succ]
                      refine wpAnyH_take (i := 10) (v := .slice (some ⟨gv2, 0, none⟩) (NC + 1) gc2) rfl (by kernel_rfl) (by kernel_rfl) (by kernel_rfl) (fun _ _ _ h => h) (Or.inl ⟨by kernel_rfl, fun w' hw => by (obtain ⟨z0, z1, z2, z3, z4, z5, z6⟩ := hw; go_simp)⟩) hS ?_
                      refine wpAnyH_take (i := 11) (v := .int .i64 (k : Int)) rfl (by kernel_rfl) (by kernel_rfl) (by kernel_rfl) (fun _ _ _ h => h) (Or.inl ⟨by kernel_rfl, fun w' hw => by (obtain ⟨z0, z1, z2, z3, z4, z5, z6⟩ := hw; go_simp)⟩) hS ?_
                      refine wpAnyH_take (i := 12) (v := .int .i64 ((k : Int) + 1)) rfl (by kernel_rfl) (by kernel_rfl) (by kernel_rfl) (fun _ _ _ h => h) (Or.inl ⟨by kernel_rfl, fun w' hw => by (obtain ⟨z0, z1, z2, z3, z4, z5, z6⟩ := hw; go_simp)⟩) hS ?_
                      refine wpAnyH_take (i := 13) (v := .pointer (some ⟨gv2, k + 1, none⟩)) rfl (by kernel_rfl) (by kernel_rfl) (by kernel_rfl) (fun _ _ _ h => h) (Or.inl ⟨by kernel_rfl, fun w' hw => by (obtain ⟨z0, z1, z2, z3, z4, z5, z6⟩ := hw; go_simp <;> exact fun h => absurd h (by omega))⟩) hS ?_
                      refine wpAnyH_take (i := 14) (v := .int .i64 ((ea : Int) + (ew : Int))) rfl (by kernel_rfl) (by kernel_rfl) (by kernel_rfl) (fun _ _ _ h => h) (Or.inl ⟨by kernel_rfl, fun w' hw => by (obtain ⟨z0, z1, z2, z3, z4, z5, z6⟩ := hw; go_simp)⟩) hS ?_
                      simp only [Act.put, List.getElem_toArray, List.getElem_cons_zero, List.getElem_cons_succ, List.setIfInBounds_toArray, List.set_cons_zero, List.set_cons_succ]
                      refine wpAnyH_take (i := 15) (v := .slice (some ⟨gv2, 0, none⟩) (NC + 1) gc2) rfl (by kernel_rfl) (by kernel_rfl) (by kernel_rfl) (fun _ _ _ h => h) (Or.inl ⟨by kernel_rfl, fun w' hw => by (obtain ⟨z0, z1, z2, z3, z4, z5, z6⟩ := hw; go_simp)⟩) hS ?_
                      refine wpAnyH_take (i := 16) (v := .int .i64 (k : Int)) rfl (by kernel_rfl) (by kernel_rfl) (by kernel_rfl) (fun _ _ _ h => h) (Or.inl ⟨by kernel_rfl, fun w' hw => by (obtain ⟨z0, z1, z2, z3, z4, z5, z6⟩ := hw; go_simp)⟩) hS ?_
                      refine wpAnyH_take (i := 17) (v := .pointer (some ⟨gv2, k, none⟩)) rfl (by kernel_rfl) (by kernel_rfl) (by kernel_rfl) (fun _ _ _ h => h) (Or.inl ⟨by kernel_rfl, fun w' hw => by (obtain ⟨z0, z1, z2, z3, z4, z5, z6⟩ := hw; go_simp)⟩) hS ?_
                      refine wpAnyH_take (i := 18) (v := .int .i64 (ea : Int)) rfl (by kernel_rfl) (by kernel_rfl) (by kernel_rfl) (fun _ _ _ h => h) (Or.inl ⟨by kernel_rfl, fun w' hw => by (obtain ⟨z0, z1, z2, z3, z4, z5, z6⟩ := hw; go_simp)⟩) hS ?_
                      refine wpAnyH_take (i := 19) (v := .int .i64 (ew : Int)) rfl (by kernel_rfl) (by kernel_rfl) (by kernel_rfl) (fun _ _ _ h => h) (Or.inl ⟨by kernel_rfl, fun w' hw => by (obtain ⟨z0, z1, z2, z3, z4, z5, z6⟩ := hw; go_simp)⟩) hS ?_
                      simp only [Act.put, List.getElem_toArray, List.getElem_cons_zero, List.getElem_cons_succ, List.setIfInBounds_toArray, List.set_cons_zero, List.set_cons_succ]
                      refine wpAnyH_take (i := 20) (v := .bool true) rfl (by kernel_rfl) (by kernel_rfl) (by kernel_rfl) (fun _ _ _ h => h) (Or.inl ⟨by kernel_rfl, fun w' hw => by (obtain ⟨z0, z1, z2, z3, z4, z5, z6⟩ := hw; go_simp)⟩) hS ?_
                      refine wpAnyH_take (i := 21) (v := .bool true) rfl (by kernel_rfl) (by kernel_rfl) (by kernel_rfl) (fun _ _ _ h => h) (Or.inl ⟨by kernel_rfl, fun w' hw => by (obtain ⟨z0, z1, z2, z3, z4, z5, z6⟩ := hw; go_simp)⟩) hS ?_
                      refine wpAnyH_take (i := 22) (v := .bool true) rfl (by kernel_rfl) (by kernel_rfl) (by kernel_rfl) (fun _ _ _ h => h) (Or.inl ⟨by kernel_rfl, fun w' hw => by (obtain ⟨z0, z1, z2, z3, z4, z5, z6⟩ := hw; go_simp)⟩) hS ?_
                      refine wpAnyH_done (by kernel_rfl) (noPO_normal ?_) _
                      try simp only [Act.put, List.getElem_toArray, List.getElem_cons_zero, List.getElem_cons_succ, List.setIfInBounds_toArray, List.set_cons_zero, List.set_cons_succ]
                      gi_wp2
                      go_roundw
                      case rel =>
                        obtain ⟨hn, ⟨hKA, hKB⟩, hBr, hKp⟩ := HH.out
                        have hl1 := (Array.getElem?_eq_some_iff.1 hKA).1
                        have hl2 := (Array.getElem?_eq_some_iff.1 hKB).1
                        have e1 : (((k + 1 : Nat) : Int)) = (k : Int) + 1 := by omega
                        refine ⟨k + 1, ⟨by omega, wr_stay HFI.out HE.out hi⟩, by rw [e1]; exact hn.set (.int .i64 ((k : Int) + 1)), ⟨((grownBy_setCell' wr X0.heap.size (.int .i64 ((k : Int) + 1))).block DA hl1 (fun e => by have := Option.some.inj e; omega)).trans hKA, ((grownBy_setCell' wr X0.heap.size (.int .i64 ((k : Int) + 1))).block DB hl2 (fun e => by have := Option.some.inj e; omega)).trans hKB⟩, (hBr.setCell (p := ⟨X0.heap.size, 0, none⟩) (Nat.le_refl _) (.int .i64 ((k : Int) + 1))).drew, (hKp.trans (Kp.set (.int .i64 ((k : Int) + 1)) (fun h => by omega) (by omega))).trans (Kp.of_below ((Below.refl _ _).drew))⟩
                      case measure =>
                        have e1 := ((HH.out.1).set (.int .i64 ((k : Int) + 1))).cell
                        have e2 := (HH.out.1).cell
                        have e1' : (wr.setCell ⟨X0.heap.size, 0, none⟩ (.int .i64 ((k : Int) + 1))).drew.cell? ⟨X0.heap.size, 0, none⟩ = some (.int .i64 ((k : Int) + 1)) := e1
                        rw [e1', e2]
                        simp [intOf]
                        omega
                  · have hq1 : ((er : Int) != 65533) = true := by simp; omega
                    have hi := isW_no1 (e := (ea, er, ew)) hr0
                    clear hr0
                    gi_wp2_with (fail)
                    refine Code.wpIn_mono noPO_le ?_
                    refine region_heldR (fun W => W.cell? ⟨X0.heap.size, 0, none⟩ = some (.int .i64 (k : Int)) ∧ W.cell? ⟨w1.heap.size, 0, none⟩ = some (.int .i64 (NC : Int)) ∧ W.cell? ⟨w1.heap.size + 1, 0, none⟩ = some (.slice (some ⟨br, or, none⟩) NC c1) ∧ W.cell? ⟨w1.heap.size + 2, 0, none⟩ = some (.slice (some ⟨gv2, 0, none⟩) (NC + 1) gc2) ∧ W.cell? ⟨br, or + k, none⟩ = some (.int .i32 (er : Int)) ∧ W.cell? ⟨gv2, k, none⟩ = some (.int .i64 (ea : Int)) ∧ W.cell? ⟨gv2, k + 1, none⟩ = some (.int .i64 ((ea : Int) + (ew : Int)))) (by kernel_rfl) (by kernel_rfl) (fun a w h => h) hS0 (fun hS => ?_)
                    clear hS0
                    refine wpAnyH_take (i := 0) (v := .int .i64 (k : Int)) rfl (by kernel_rfl) (by kernel_rfl) (by kernel_rfl) (fun _ _ _ h => h) (Or.inl ⟨by kernel_rfl, fun w' hw => by (obtain ⟨z0, z1, z2, z3, z4, z5, z6⟩ := hw; go_simp)⟩) hS ?_
                    refine wpAnyH_take (i := 1) (v := .int .i64 (NC : Int)) rfl (by kernel_rfl) (by kernel_rfl) (by kernel_rfl) (fun _ _ _ h => h) (Or.inl ⟨by kernel_rfl, fun w' hw => by (obtain ⟨z0, z1, z2, z3, z4, z5, z6⟩ := hw; go_simp)⟩) hS ?_
                    refine wpAnyH_take (i := 2) (v := .bool true) rfl (by kernel_rfl) (by kernel_rfl) (by kernel_rfl) (fun _ _ _ h => h) (Or.inl ⟨by kernel_rfl, fun w' hw => by (obtain ⟨z0, z1, z2, z3, z4, z5, z6⟩ := hw; go_simp)⟩) hS ?_
                    refine wpAnyH_take (i := 3) (v := .bool true) rfl (by kernel_rfl) (by kernel_rfl) (by kernel_rfl) (fun _ _ _ h => h) (Or.inl ⟨by kernel_rfl, fun w' hw => by (obtain ⟨z0, z1, z2, z3, z4, z5, z6⟩ := hw; go_simp)⟩) hS ?_
                    refine wpAnyH_take (i := 4) (v := .slice (some ⟨br, or, none⟩) NC c1) rfl (by kernel_rfl) (by kernel_rfl) (by kernel_rfl) (fun _ _ _ h => h) (Or.inl ⟨by kernel_rfl, fun w' hw => by (obtain ⟨z0, z1, z2, z3, z4, z5, z6⟩ := hw; go_simp)⟩) hS ?_
                    refine wpAnyH_take (i := 5) (v := .int .i64 (k : Int)) rfl (by kernel_rfl) (by kernel_rfl) (by kernel_rfl) (fun _ _ _ h => h) (Or.inl ⟨by kernel_rfl, fun w' hw => by (obtain ⟨z0, z1, z2, z3, z4, z5, z6⟩ := hw; go_simp)⟩) hS ?_
                    refine wpAnyH_take (i := 6) (v := .pointer (some ⟨br, or + k, none⟩)) rfl (by kernel_rfl) (by kernel_rfl) (by kernel_rfl) (fun _ _ _ h => h) (Or.inl ⟨by kernel_rfl, fun w' hw => by (obtain ⟨z0, z1, z2, z3, z4, z5, z6⟩ := hw; go_simp)⟩) hS ?_
                    refine wpAnyH_take (i := 7) (v := .int .i32 (er : Int)) rfl (by kernel_rfl) (by kernel_rfl) (by kernel_rfl) (fun _ _ _ h => h) (Or.inl ⟨by kernel_rfl, fun w' hw => by (obtain ⟨z0, z1, z2, z3, z4, z5, z6⟩ := hw; go_simp)⟩) hS ?_
                    refine wpAnyH_take (i := 8) (v := .bool true) rfl (by kernel_rfl) (by kernel_rfl) (by kernel_rfl) (fun _ _ _ h => h) (Or.inl ⟨by kernel_rfl, fun w' hw => by (obtain ⟨z0, z1, z2, z3, z4, z5, z6⟩ := hw; go_simp)⟩) hS ?_
                    refine wpAnyH_take (i := 9) (v := .bool true) rfl (by kernel_rfl) (by kernel_rfl) (by kernel_rfl) (fun _ _ _ h => h) (Or.inl ⟨by kernel_rfl, fun w' hw => by (obtain ⟨z0, z1, z2, z3, z4, z5, z6⟩ := hw; go_simp)⟩) hS ?_
                    refine wpAnyH_take (i := 10) (v := undef) rfl (by kernel_rfl) (by kernel_rfl) (by kernel_rfl) (fun _ _ _ h => h) (Or.inr ⟨by kernel_rfl, rfl⟩) hS ?_
                    refine wpAnyH_take (i := 11) (v := undef) rfl (by kernel_rfl) (by kernel_rfl) (by kernel_rfl) (fun _ _ _ h => h) (Or.inr ⟨by kernel_rfl, rfl⟩) hS ?_
                    refine wpAnyH_take (i := 12) (v := undef) rfl (by kernel_rfl) (by kernel_rfl) (by kernel_rfl) (fun _ _ _ h => h) (Or.inr ⟨by kernel_rfl, rfl⟩) hS ?_
                    refine wpAnyH_take (i := 13) (v := undef) rfl (by kernel_rfl) (by kernel_rfl) (by kernel_rfl) (fun _ _ _ h => h) (Or.inr ⟨by kernel_rfl, rfl⟩) hS ?_
                    refine wpAnyH_take (i := 14) (v := undef) rfl (by kernel_rfl) (by kernel_rfl) (by kernel_rfl) (fun _ _ _ h => h) (Or.inr ⟨by kernel_rfl, rfl⟩) hS ?_
                    refine wpAnyH_take (i := 15) (v := undef) rfl (by kernel_rfl) (by kernel_rfl) (by kernel_rfl) (fun _ _ _ h => h) (Or.inr ⟨by kernel_rfl, rfl⟩) hS ?_
                    refine wpAnyH_take (i := 16) (v := undef) rfl (by kernel_rfl) (by kernel_rfl) (by kernel_rfl) (fun _ _ _ h => h) (Or.inr ⟨by kernel_rfl, rfl⟩) hS ?_
                    refine wpAnyH_take (i := 17) (v := undef) rfl (by kernel_rfl) (by kernel_rfl) (by kernel_rfl) (fun _ _ _ h => h) (Or.inr ⟨by kernel_rfl, rfl⟩) hS ?_
                    refine wpAnyH_take (i := 18) (v := undef) rfl (by kernel_rfl) (by kernel_rfl) (by kernel_rfl) (fun _ _ _ h => h) (Or.inr ⟨by kernel_rfl, rfl⟩) hS ?_
                    refine wpAnyH_take (i := 19) (v := undef) rfl (by kernel_rfl) (by kernel_rfl) (by kernel_rfl) (fun _ _ _ h => h) (Or.inr ⟨by kernel_rfl, rfl⟩) hS ?_
                    refine wpAnyH_take (i := 20) (v := undef) rfl (by kernel_rfl) (by kernel_rfl) (by kernel_rfl) (fun _ _ _ h => h) (Or.inr ⟨by kernel_rfl, rfl⟩) hS ?_
                    refine wpAnyH_take (i := 21) (v := .bool true) rfl (by kernel_rfl) (by kernel_rfl) (by kernel_rfl) (fun _ _ _ h => h) (Or.inl ⟨by kernel_rfl, fun w' hw => by (obtain ⟨z0, z1, z2, z3, z4, z5, z6⟩ := hw; go_simp)⟩) hS ?_
                    refine wpAnyH_take (i := 22) (v := .bool true) rfl (by kernel_rfl) (by kernel_rfl) (by kernel_rfl) (fun _ _ _ h => h) (Or.inl ⟨by kernel_rfl, fun w' hw => by (obtain ⟨z0, z1, z2, z3, z4, z5, z6⟩ := hw; go_simp)⟩) hS ?_
                    refine wpAnyH_done (by kernel_rfl) (noPO_normal ?_) _
                    try simp only [Act.put, List.getElem_toArray, List.getElem_cons_zero, List.getElem_cons_succ, List.setIfInBounds_toArray, List.set_cons_zero, List.set_cons_succ]
                    gi_wp2
                    go_roundw
                    case rel =>
                      obtain ⟨hn, ⟨hKA, hKB⟩, hBr, hKp⟩ := HH.out
                      have hl1 := (Array.getElem?_eq_some_iff.1 hKA).1
                      have hl2 := (Array.getElem?_eq_some_iff.1 hKB).1
                      have e1 : (((k + 1 : Nat) : Int)) = (k : Int) + 1 := by omega
                      refine ⟨k + 1, ⟨by omega, wr_stay HFI.out HE.out hi⟩, by rw [e1]; exact hn.set (.int .i64 ((k : Int) + 1)), ⟨((grownBy_setCell' wr X0.heap.size (.int .i64 ((k : Int) + 1))).block DA hl1 (fun e => by have := Option.some.inj e; omega)).trans hKA, ((grownBy_setCell' wr X0.heap.size (.int .i64 ((k : Int) + 1))).block DB hl2 (fun e => by have := Option.some.inj e; omega)).trans hKB⟩, (hBr.setCell (p := ⟨X0.heap.size, 0, none⟩) (Nat.le_refl _) (.int .i64 ((k : Int) + 1))).drew, (hKp.trans (Kp.set (.int .i64 ((k : Int) + 1)) (fun h => by omega) (by omega))).trans (Kp.of_below ((Below.refl _ _).drew))⟩
                    case measure =>
                      have e1 := ((HH.out.1).set (.int .i64 ((k : Int) + 1))).cell
                      have e2 := (HH.out.1).cell
                      have e1' : (wr.setCell ⟨X0.heap.size, 0, none⟩ (.int .i64 ((k : Int) + 1))).drew.cell? ⟨X0.heap.size, 0, none⟩ = some (.int .i64 ((k : Int) + 1)) := e1
                      rw [e1', e2]
                      simp [intOf]
                      omega
                · exfalso
                  have hkN : k = NC := by omega
                  rw [hkN, ← HNC.out] at hfil
                  exact wr_end hfil HPX.out
            case hdone =>
              rintro DC XC hDC ⟨⟨κ, ⟨hκ, hfil⟩, hn⟩, ⟨hKA, hKB⟩, hBX⟩ hKC
              clear bn bs hBn hKAs hKBs
              have hlC := (Array.getElem?_eq_some_iff.1 hKC).1
              have HX := hide (And.intro hn (And.intro (And.intro hKA (And.intro hKB hKC)) hBX))
              have HFIL := hide (And.intro hκ hfil)
              clear hn hKA hKB hKC hBX hfil hκ
              gi_wp2
              gi_loopw [] (fun wr => ∃ k : Nat, (k ≤ NC ∧ ((Cs 0 (bl s)).take k).filter isW = Ws (bl s)) ∧ Boxed wr X0.heap.size 3 (.int .i64 (k : Int)) ∧ (wr.heap[DA]? = some (.deferred (some [])) ∧ wr.heap[DB]? = some (.deferred (some [])) ∧ wr.heap[DC]? = some (.deferred (some []))) ∧ Below X0.heap.size X0 wr) (fun wr => NC - (intOf ((wr.cell? ⟨X0.heap.size, 0, none⟩).getD undef)).toNat)
              case atStart =>
                obtain ⟨hn, hK3, hBX⟩ := HX.out
                exact ⟨κ, HFIL.out, hn, hK3, hBX⟩
              case round =>
                obtain ⟨k, ⟨hk, hfil⟩, hn, ⟨hKA, hKB, hKC⟩, hBr⟩ := hrel
                by_cases hlt : k < NC
                · obtain ⟨⟨ea, er, ew⟩, he⟩ : ∃ e, (Cs 0 (bl s))[k]? = some e := ⟨_, List.getElem?_eq_getElem (by rw [HNC.out]; exact hlt)⟩
                  obtain ⟨h0, h1, h2, h3, hsu, hsn, hBw⟩ := FX.out wr hBr
                  obtain ⟨br, or, rfl, hcr⟩ := hsu.get (k := k) (by rw [HZL.out]; exact hlt)
                  obtain ⟨bp, op, ebp, hcp⟩ := hsn.get (k := k) (by rw [hPl]; omega)
                  cases ebp
                  have y0 := hcp _ _ (PLi_here 0 _ _ _ he)
                  have y2 := hcp _ _ (PLi_next _ 0 _ _ he)
                  have y1 := hcr _ _ (runesZ_get he)
                  simp only [Nat.zero_add] at y0 y2
                  push_cast at y2
                  have cn := hn.cell
                  have fn' := hn.frozen
                  have d1 := h1.cell
                  have d2 := h2.cell
                  have d3 := h3.cell
                  have hS0 : wr.drew.cell? ⟨X0.heap.size, 0, none⟩ = some (.int .i64 (k : Int)) ∧ wr.drew.cell? ⟨w1.heap.size, 0, none⟩ = some (.int .i64 (NC : Int)) ∧ wr.drew.cell? ⟨w1.heap.size + 1, 0, none⟩ = some (.slice (some ⟨br, or, none⟩) NC c1) ∧ wr.drew.cell? ⟨w1.heap.size + 2, 0, none⟩ = some (.slice (some ⟨gv2, 0, none⟩) (NC + 1) gc2) ∧ wr.drew.cell? ⟨br, or + k, none⟩ = some (.int .i32 (er : Int)) ∧ wr.drew.cell? ⟨gv2, k, none⟩ = some (.int .i64 (ea : Int)) ∧ wr.drew.cell? ⟨gv2, k + 1, none⟩ = some (.int .i64 ((ea : Int) + (ew : Int))) := ⟨cn, d1, d2, d3, y1, y0, y2⟩
                  have hltI : (k : Int) < (NC : Int) := by omega
                  have hltJ : (k : Int) + 1 < (NC : Int) + 1 := by omega
                  have hltJ2 : (k : Int) < (NC : Int) + 1 := by omega
                  have hsub : (ea : Int) + (ew : Int) - (ea : Int) = (ew : Int) := by omega
                  have hwb := (Cs_mem (bl s) 0 _ (List.mem_of_getElem? he))
                  have hewI : (ew : Int) ≤ 4 := by have := hwb.2.2.2.1; simp only at this; omega
                  have hwk : IntKind.i64.wrap ((k : Int) + 1) = (k : Int) + 1 := by rw [IntKind.wrap_i64]; omega
                  have hwe : IntKind.i64.wrap (ew : Int) = (ew : Int) := by rw [IntKind.wrap_i64]; omega
                  have HH := hide (And.intro hn (And.intro (And.intro hKA (And.intro hKB hKC)) hBr))
                  have HE := hide he
                  have HFI := hide hfil
                  clear hn hKA hKB hKC hBr hfil he hcp hcr hsu hsn h0 h1 h2 h3 hBw hwb d1 d2 d3
                  by_cases hr0 : er = 65533
                  · have hq1 : ((er : Int) != 65533) = false := by simp [hr0]
                    by_cases hw0 : ew = 1
                    · exfalso
                      have h1 := wr_hit HFI.out HE.out (isW_yes (e := (ea, er, ew)) hr0 hw0)
                      have h2 : ((Cs 0 (bl s)).take (k + 1)).filter isW <+: Ws (bl s) := filt_pre isW (Cs 0 (bl s)) (k + 1)
                      rw [h1] at h2
                      have := h2.length_le
                      simp at this
                      omega
                    · have hq2 : ((ew : Int) != 1) = true := by simp; omega
                      have hi := isW_no2 (e := (ea, er, ew)) hw0
                      clear hr0
                      gi_wp2_with (fail)
                      refine wpIn_wide.2 (Go.wp_mono (Q := noPO _) ?_ noPO_le)
                      refine wp_region_held_drew (S := (fun W => W.cell? ⟨X0.heap.size, 0, none⟩ = some (.int .i64 (k : Int)) ∧ W.cell? ⟨w1.heap.size, 0, none⟩ = some (.int .i64 (NC : Int)) ∧ W.cell? ⟨w1.heap.size + 1, 0, none⟩ = some (.slice (some ⟨br, or, none⟩) NC c1) ∧ W.cell? ⟨w1.heap.size + 2, 0, none⟩ = some (.slice (some ⟨gv2, 0, none⟩) (NC + 1) gc2) ∧ W.cell? ⟨br, or + k, none⟩ = some (.int .i32 (er : Int)) ∧ W.cell? ⟨gv2, k, none⟩ = some (.int .i64 (ea : Int)) ∧ W.cell? ⟨gv2, k + 1, none⟩ = some (.int .i64 ((ea : Int) + (ew : Int))))) (by kernel_rfl) hS0 (fun hS => ?_)
                      clear hS0
                      refine wpAnyH_take (i := 0) (v := .int .i64 (k : Int)) rfl (by kernel_rfl) (by kernel_rfl) (by kernel_rfl) (fun _ _ _ h => h) (Or.inl ⟨by kernel_rfl, fun w' hw => by (obtain ⟨z0, z1, z2, z3, z4, z5, z6⟩ := hw; go_simp)⟩) hS ?_
                      refine wpAnyH_take (i := 1) (v := .int .i64 (NC : Int)) rfl (by kernel_rfl) (by kernel_rfl) (by kernel_rfl) (fun _ _ _ h => h) (Or.inl ⟨by kernel_rfl, fun w' hw => by (obtain ⟨z0, z1, z2, z3, z4, z5, z6⟩ := hw; go_simp)⟩) hS ?_
                      refine wpAnyH_take (i := 2) (v := .bool true) rfl (by kernel_rfl) (by kernel_rfl) (by kernel_rfl) (fun _ _ _ h => h) (Or.inl ⟨by kernel_rfl, fun w' hw => by (obtain ⟨z0, z1, z2, z3, z4, z5, z6⟩ := hw; go_simp)⟩) hS ?_
                      refine wpAnyH_take (i := 3) (v := .bool true) rfl (by kernel_rfl) (by kernel_rfl) (by kernel_rfl) (fun _ _ _ h => h) (Or.inl ⟨by kernel_rfl, fun w' hw => by (obtain ⟨z0, z1, z2, z3, z4, z5, z6⟩ := hw; go_simp)⟩) hS ?_
                      refine wpAnyH_take (i := 4) (v := .slice (some ⟨br, or, none⟩) NC c1) rfl (by kernel_rfl) (by kernel_rfl) (by kernel_rfl) (fun _ _ _ h => h) (Or.inl ⟨by kernel_rfl, fun w' hw => by (obtain ⟨z0, z1, z2, z3, z4, z5, z6⟩ := hw; go_simp)⟩) hS ?_
                      refine wpAnyH_take (i := 5) (v := .int .i64 (k : Int)) rfl (by kernel_rfl) (by kernel_rfl) (by kernel_rfl) (fun _ _ _ h => h) (Or.inl ⟨by kernel_rfl, fun w' hw => by (obtain ⟨z0, z1, z2, z3, z4, z5, z6⟩ := hw; go_simp)⟩) hS ?_
                      refine wpAnyH_take (i := 6) (v := .pointer (some ⟨br, or + k, none⟩)) rfl (by kernel_rfl) (by kernel_rfl) (by kernel_rfl) (fun _ _ _ h => h) (Or.inl ⟨by kernel_rfl, fun w' hw => by (obtain ⟨z0, z1, z2, z3, z4, z5, z6⟩ := hw; go_simp)⟩) hS ?_
                      refine wpAnyH_take (i := 7) (v := .int .i32 (er : Int)) rfl (by kernel_rfl) (by kernel_rfl) (by kernel_rfl) (fun _ _ _ h => h) (Or.inl ⟨by kernel_rfl, fun w' hw => by (obtain ⟨z0, z1, z2, z3, z4, z5, z6⟩ := hw; go_simp)⟩) hS ?_
                      refine wpAnyH_take (i := 8) (v := .bool false) rfl (by kernel_rfl) (by kernel_rfl) (by kernel_rfl) (fun _ _ _ h => h) (Or.inl ⟨by kernel_rfl, fun w' hw => by (obtain ⟨z0, z1, z2, z3, z4, z5, z6⟩ := hw; go_simp)⟩) hS ?_
                      refine wpAnyH_take (i := 9) (v := .bool false) rfl (by kernel_rfl) (by kernel_rfl) (by kernel_rfl) (fun _ _ _ h => h) (Or.inl ⟨by kernel_rfl, fun w' hw => by (obtain ⟨z0, z1, z2, z3, z4, z5, z6⟩ := hw; go_simp)⟩) hS ?_
                      simp only [Act.put, List.getElem_toArray, List.getElem_cons_zero, List.getElem_cons_succ, List.setIfInBounds_toArray, List.set_cons_zero, List.set_cons_succ]
                      refine wpAnyH_take (i := 10) (v := .slice (some ⟨gv2, 0, none⟩) (NC + 1) gc2) rfl (by kernel_rfl) (by kernel_rfl) (by kernel_rfl) (fun _ _ _ h => h) (Or.inl ⟨by kernel_rfl, fun w' hw => by (obtain ⟨z0, z1, z2, z3, z4, z5, z6⟩ := hw; go_simp)⟩) hS ?_
                      refine wpAnyH_take (i := 11) (v := .int .i64 (k : Int)) rfl (by kernel_rfl) (by kernel_rfl) (by kernel_rfl) (fun _ _ _ h => h) (Or.inl ⟨by kernel_rfl, fun w' hw => by (obtain ⟨z0, z1, z2, z3, z4, z5, z6⟩ := hw; go_simp)⟩) hS ?_
                      refine wpAnyH_take (i := 12) (v := .int .i64 ((k : Int) + 1)) rfl (by kernel_rfl) (by kernel_rfl) (by kernel_rfl) (fun _ _ _ h => h) (Or.inl ⟨by kernel_rfl, fun w' hw => by (obtain ⟨z0, z1, z2, z3, z4, z5, z6⟩ := hw; go_simp)⟩) hS ?_
                      refine wpAnyH_take (i := 13) (v := .pointer (some ⟨gv2, k + 1, none⟩)) rfl (by kernel_rfl) (by kernel_rfl) (by kernel_rfl) (fun _ _ _ h => h) (Or.inl ⟨by kernel_rfl, fun w' hw => by (obtain ⟨z0, z1, z2, z3, z4, z5, z6⟩ := hw; go_simp <;> exact fun h => absurd h (by omega))⟩) hS ?_
                      refine wpAnyH_take (i := 14) (v := .int .i64 ((ea : Int) + (ew : Int))) rfl (by kernel_rfl) (by kernel_rfl) (by kernel_rfl) (fun _ _ _ h => h) (Or.inl ⟨by kernel_rfl, fun w' hw => by (obtain ⟨z0, z1, z2, z3, z4, z5, z6⟩ := hw; go_simp)⟩) hS ?_
                      simp only [Act.put, List.getElem_toArray, List.getElem_cons_zero, List.getElem_cons_succ, List.setIfInBounds_toArray, List.set_cons_zero, List.set_cons_succ]
                      refine wpAnyH_take (i := 15) (v := .slice (some ⟨gv2, 0, none⟩) (NC + 1) gc2) rfl (by kernel_rfl) (by kernel_rfl) (by kernel_rfl) (fun _ _ _ h => h) (Or.inl ⟨by kernel_rfl, fun w' hw => by (obtain ⟨z0, z1, z2, z3, z4, z5, z6⟩ := hw; go_simp)⟩) hS ?_
                      refine wpAnyH_take (i := 16) (v := .int .i64 (k : Int)) rfl (by kernel_rfl) (by kernel_rfl) (by kernel_rfl) (fun _ _ _ h => h) (Or.inl ⟨by kernel_rfl, fun w' hw => by (obtain ⟨z0, z1, z2, z3, z4, z5, z6⟩ := hw; go_simp)⟩) hS ?_
                      refine wpAnyH_take (i := 17) (v := .pointer (some ⟨gv2, k, none⟩)) rfl (by kernel_rfl) (by kernel_rfl) (by kernel_rfl) (fun _ _ _ h => h) (Or.inl ⟨by kernel_rfl, fun w' hw => by (obtain ⟨z0, z1, z2, z3, z4, z5, z6⟩ := hw; go_simp)⟩) hS ?_
                      refine wpAnyH_take (i := 18) (v := .int .i64 (ea : Int)) rfl (by kernel_rfl) (by kernel_rfl) (by kernel_rfl) (fun _ _ _ h => h) (Or.inl ⟨by kernel_rfl, fun w' hw => by (obtain ⟨z0, z1, z2, z3, z4, z5, z6⟩ := hw; go_simp)⟩) hS ?_
                      refine wpAnyH_take (i := 19) (v := .int .i64 (ew : Int)) rfl (by kernel_rfl) (by kernel_rfl) (by kernel_rfl) (fun _ _ _ h => h) (Or.inl ⟨by kernel_rfl, fun w' hw => by (obtain ⟨z0, z1, z2, z3, z4, z5, z6⟩ := hw; go_simp)⟩) hS ?_
                      simp only [Act.put, List.getElem_toArray, List.getElem_cons_zero, List.getElem_cons_succ, List.setIfInBounds_toArray, List.set_cons_zero, List.set_cons_succ]
                      refine wpAnyH_take (i := 20) (v := .bool true) rfl (by kernel_rfl) (by kernel_rfl) (by kernel_rfl) (fun _ _ _ h => h) (Or.inl ⟨by kernel_rfl, fun w' hw => by (obtain ⟨z0, z1, z2, z3, z4, z5, z6⟩ := hw; go_simp)⟩) hS ?_
                      refine wpAnyH_take (i := 21) (v := .bool true) rfl (by kernel_rfl) (by kernel_rfl) (by kernel_rfl) (fun _ _ _ h => h) (Or.inl ⟨by kernel_rfl, fun w' hw => by (obtain ⟨z0, z1, z2, z3, z4, z5, z6⟩ := hw; go_simp)⟩) hS ?_
                      refine wpAnyH_take (i := 22) (v := .bool true) rfl (by kernel_rfl) (by kernel_rfl) (by kernel_rfl) (fun _ _ _ h => h) (Or.inl ⟨by kernel_rfl, fun w' hw => by (obtain ⟨z0, z1, z2, z3, z4, z5, z6⟩ := hw; go_simp)⟩) hS ?_
                      refine wpAnyH_done (by kernel_rfl) (noPO_normal ?_) _
                      try simp only [Act.put, List.getElem_toArray, List.getElem_cons_zero, List.getElem_cons_succ, List.setIfInBounds_toArray, List.set_cons_zero, List.set_cons_succ]
                      gi_wp2
                      go_roundw
                      case rel =>
                        obtain ⟨hn, ⟨hKA, hKB, hKC⟩, hBr⟩ := HH.out
                        have hl1 := (Array.getElem?_eq_some_iff.1 hKA).1
                        have hl2 := (Array.getElem?_eq_some_iff.1 hKB).1
                        have hl3 := (Array.getElem?_eq_some_iff.1 hKC).1
                        have e1 : (((k + 1 : Nat) : Int)) = (k : Int) + 1 := by omega
                        refine ⟨k + 1, ⟨by omega, wr_stay HFI.out HE.out hi⟩, by rw [e1]; exact hn.set (.int .i64 ((k : Int) + 1)), ⟨((grownBy_setCell' wr X0.heap.size (.int .i64 ((k : Int) + 1))).block DA hl1 (fun e => by have := Option.some.inj e; omega)).trans hKA, ((grownBy_setCell' wr X0.heap.size (.int .i64 ((k : Int) + 1))).block DB hl2 (fun e => by have := Option.some.inj e; omega)).trans hKB, ((grownBy_setCell' wr X0.heap.size (.int .i64 ((k : Int) + 1))).block DC hl3 (fun e => by have := Option.some.inj e; omega)).trans hKC⟩, (hBr.setCell (p := ⟨X0.heap.size, 0, none⟩) (Nat.le_refl _) (.int .i64 ((k : Int) + 1))).drew⟩
                      case measure =>
                        have e1 := ((HH.out.1).set (.int .i64 ((k : Int) + 1))).cell
                        have e2 := (HH.out.1).cell
                        have e1' : (wr.setCell ⟨X0.heap.size, 0, none⟩ (.int .i64 ((k : Int) + 1))).drew.cell? ⟨X0.heap.size, 0, none⟩ = some (.int .i64 ((k : Int) + 1)) := e1
                        rw [e1', e2]
                        simp [intOf]
                        omega
                  · have hq1 : ((er : Int) != 65533) = true := by simp; omega
                    have hi := isW_no1 (e := (ea, er, ew)) hr0
                    clear hr0
                    gi_wp2_with (fail)
                    refine wpIn_wide.2 (Go.wp_mono (Q := noPO _) ?_ noPO_le)
                    refine wp_region_held_drew (S := (fun W => W.cell? ⟨X0.heap.size, 0, none⟩ = some (.int .i64 (k : Int)) ∧ W.cell? ⟨w1.heap.size, 0, none⟩ = some (.int .i64 (NC : Int)) ∧ W.cell? ⟨w1.heap.size + 1, 0, none⟩ = some (.slice (some ⟨br, or, none⟩) NC c1) ∧ W.cell? ⟨w1.heap.size + 2, 0, none⟩ = some (.slice (some ⟨gv2, 0, none⟩) (NC + 1) gc2) ∧ W.cell? ⟨br, or + k, none⟩ = some (.int .i32 (er : Int)) ∧ W.cell? ⟨gv2, k, none⟩ = some (.int .i64 (ea : Int)) ∧ W.cell? ⟨gv2, k + 1, none⟩ = some (.int .i64 ((ea : Int) + (ew : Int))))) (by kernel_rfl) hS0 (fun hS => ?_)
                    clear hS0
                    refine wpAnyH_take (i := 0) (v := .int .i64 (k : Int)) rfl (by kernel_rfl) (by kernel_rfl) (by kernel_rfl) (fun _ _ _ h => h) (Or.inl ⟨by kernel_rfl, fun w' hw => by (obtain ⟨z0, z1, z2, z3, z4, z5, z6⟩ := hw; go_simp)⟩) hS ?_
                    refine wpAnyH_take (i := 1) (v := .int .i64 (NC : Int)) rfl (by kernel_rfl) (by kernel_rfl) (by kernel_rfl) (fun _ _ _ h => h) (Or.inl ⟨by kernel_rfl, fun w' hw => by (obtain ⟨z0, z1, z2, z3, z4, z5, z6⟩ := hw; go_simp)⟩) hS ?_
                    refine wpAnyH_take (i := 2) (v := .bool true) rfl (by kernel_rfl) (by kernel_rfl) (by kernel_rfl) (fun _ _ _ h => h) (Or.inl ⟨by kernel_rfl, fun w' hw => by (obtain ⟨z0, z1, z2, z3, z4, z5, z6⟩ := hw; go_simp)⟩) hS ?_
                    refine wpAnyH_take (i := 3) (v := .bool true) rfl (by kernel_rfl) (by kernel_rfl) (by kernel_rfl) (fun _ _ _ h => h) (Or.inl ⟨by kernel_rfl, fun w' hw => by (obtain ⟨z0, z1, z2, z3, z4, z5, z6⟩ := hw; go_simp)⟩) hS ?_
                    refine wpAnyH_take (i := 4) (v := .slice (some ⟨br, or, none⟩) NC c1) rfl (by kernel_rfl) (by kernel_rfl) (by kernel_rfl) (fun _ _ _ h => h) (Or.inl ⟨by kernel_rfl, fun w' hw => by (obtain ⟨z0, z1, z2, z3, z4, z5, z6⟩ := hw; go_simp)⟩) hS ?_
                    refine wpAnyH_take (i := 5) (v := .int .i64 (k : Int)) rfl (by kernel_rfl) (by kernel_rfl) (by kernel_rfl) (fun _ _ _ h => h) (Or.inl ⟨by kernel_rfl, fun w' hw => by (obtain ⟨z0, z1, z2, z3, z4, z5, z6⟩ := hw; go_simp)⟩) hS ?_
                    refine wpAnyH_take (i := 6) (v := .pointer (some ⟨br, or + k, none⟩)) rfl (by kernel_rfl) (by kernel_rfl) (by kernel_rfl) (fun _ _ _ h => h) (Or.inl ⟨by kernel_rfl, fun w' hw => by (obtain ⟨z0, z1, z2, z3, z4, z5, z6⟩ := hw; go_simp)⟩) hS ?_
                    refine wpAnyH_take (i := 7) (v := .int .i32 (er : Int)) rfl (by kernel_rfl) (by kernel_rfl) (by kernel_rfl) (fun _ _ _ h => h) (Or.inl ⟨by kernel_rfl, fun w' hw => by (obtain ⟨z0, z1, z2, z3, z4, z5, z6⟩ := hw; go_simp)⟩) hS ?_
                    refine wpAnyH_take (i := 8) (v := .bool true) rfl (by kernel_rfl) (by kernel_rfl) (by kernel_rfl) (fun _ _ _ h => h) (Or.inl ⟨by kernel_rfl, fun w' hw => by (obtain ⟨z0, z1, z2, z3, z4, z5, z6⟩ := hw; go_simp)⟩) hS ?_
                    refine wpAnyH_take (i := 9) (v := .bool true) rfl (by kernel_rfl) (by kernel_rfl) (by kernel_rfl) (fun _ _ _ h => h) (Or.inl ⟨by kernel_rfl, fun w' hw => by (obtain ⟨z0, z1, z2, z3, z4, z5, z6⟩ := hw; go_simp)⟩) hS ?_
                    refine wpAnyH_take (i := 10) (v := undef) rfl (by kernel_rfl) (by kernel_rfl) (by kernel_rfl) (fun _ _ _ h => h) (Or.inr ⟨by kernel_rfl, rfl⟩) hS ?_
                    refine wpAnyH_take (i := 11) (v := undef) rfl (by kernel_rfl) (by kernel_rfl) (by kernel_rfl) (fun _ _ _ h => h) (Or.inr ⟨by kernel_rfl, rfl⟩) hS ?_
                    refine wpAnyH_take (i := 12) (v := undef) rfl (by kernel_rfl) (by kernel_rfl) (by kernel_rfl) (fun _ _ _ h => h) (Or.inr ⟨by kernel_rfl, rfl⟩) hS ?_
                    refine wpAnyH_take (i := 13) (v := undef) rfl (by kernel_rfl) (by kernel_rfl) (by kernel_rfl) (fun _ _ _ h => h) (Or.inr ⟨by kernel_rfl, rfl⟩) hS ?_
                    refine wpAnyH_take (i := 14) (v := undef) rfl (by kernel_rfl) (by kernel_rfl) (by kernel_rfl) (fun _ _ _ h => h) (Or.inr ⟨by kernel_rfl, rfl⟩) hS ?_
                    refine wpAnyH_take (i := 15) (v := undef) rfl (by kernel_rfl) (by kernel_rfl) (by kernel_rfl) (fun _ _ _ h => h) (Or.inr ⟨by kernel_rfl, rfl⟩) hS ?_
                    refine wpAnyH_take (i := 16) (v := undef) rfl (by kernel_rfl) (by kernel_rfl) (by kernel_rfl) (fun _ _ _ h => h) (Or.inr ⟨by kernel_rfl, rfl⟩) hS ?_
                    refine wpAnyH_take (i := 17) (v := undef) rfl (by kernel_rfl) (by kernel_rfl) (by kernel_rfl) (fun _ _ _ h => h) (Or.inr ⟨by kernel_rfl, rfl⟩) hS ?_
                    refine wpAnyH_take (i := 18) (v := undef) rfl (by kernel_rfl) (by kernel_rfl) (by kernel_rfl) (fun _ _ _ h => h) (Or.inr ⟨by kernel_rfl, rfl⟩) hS ?_
                    refine wpAnyH_take (i := 19) (v := undef) rfl (by kernel_rfl) (by kernel_rfl) (by kernel_rfl) (fun _ _ _ h => h) (Or.inr ⟨by kernel_rfl, rfl⟩) hS ?_
                    refine wpAnyH_take (i := 20) (v := undef) rfl (by kernel_rfl) (by kernel_rfl) (by kernel_rfl) (fun _ _ _ h => h) (Or.inr ⟨by kernel_rfl, rfl⟩) hS ?_
                    refine wpAnyH_take (i := 21) (v := .bool true) rfl (by kernel_rfl) (by kernel_rfl) (by kernel_rfl) (fun _ _ _ h => h) (Or.inl ⟨by kernel_rfl, fun w' hw => by (obtain ⟨z0, z1, z2, z3, z4, z5, z6⟩ := hw; go_simp)⟩) hS ?_
                    refine wpAnyH_take (i := 22) (v := .bool true) rfl (by kernel_rfl) (by kernel_rfl) (by kernel_rfl) (fun _ _ _ h => h) (Or.inl ⟨by kernel_rfl, fun w' hw => by (obtain ⟨z0, z1, z2, z3, z4, z5, z6⟩ := hw; go_simp)⟩) hS ?_
                    refine wpAnyH_done (by kernel_rfl) (noPO_normal ?_) _
                    try simp only [Act.put, List.getElem_toArray, List.getElem_cons_zero, List.getElem_cons_succ, List.setIfInBounds_toArray, List.set_cons_zero, List.set_cons_succ]
                    gi_wp2
                    go_roundw
                    case rel =>
                      obtain ⟨hn, ⟨hKA, hKB, hKC⟩, hBr⟩ := HH.out
                      have hl1 := (Array.getElem?_eq_some_iff.1 hKA).1
                      have hl2 := (Array.getElem?_eq_some_iff.1 hKB).1
                      have hl3 := (Array.getElem?_eq_some_iff.1 hKC).1
                      have e1 : (((k + 1 : Nat) : Int)) = (k : Int) + 1 := by omega
                      refine ⟨k + 1, ⟨by omega, wr_stay HFI.out HE.out hi⟩, by rw [e1]; exact hn.set (.int .i64 ((k : Int) + 1)), ⟨((grownBy_setCell' wr X0.heap.size (.int .i64 ((k : Int) + 1))).block DA hl1 (fun e => by have := Option.some.inj e; omega)).trans hKA, ((grownBy_setCell' wr X0.heap.size (.int .i64 ((k : Int) + 1))).block DB hl2 (fun e => by have := Option.some.inj e; omega)).trans hKB, ((grownBy_setCell' wr X0.heap.size (.int .i64 ((k : Int) + 1))).block DC hl3 (fun e => by have := Option.some.inj e; omega)).trans hKC⟩, (hBr.setCell (p := ⟨X0.heap.size, 0, none⟩) (Nat.le_refl _) (.int .i64 ((k : Int) + 1))).drew⟩
                    case measure =>
                      have e1 := ((HH.out.1).set (.int .i64 ((k : Int) + 1))).cell
                      have e2 := (HH.out.1).cell
                      have e1' : (wr.setCell ⟨X0.heap.size, 0, none⟩ (.int .i64 ((k : Int) + 1))).drew.cell? ⟨X0.heap.size, 0, none⟩ = some (.int .i64 ((k : Int) + 1)) := e1
                      rw [e1', e2]
                      simp [intOf]
                      omega
                · have hkN : k = NC := by omega
                  subst hkN
                  obtain ⟨h0, h1, h2, h3, hsu, hsn, hBw⟩ := FX.out wr hBr
                  have cn := hn.cell
                  have d1 := h1.cell
                  have endS : ∀ tmps : Array Value, tmps.getD 2 undef = .pointer (some ⟨w.heap.size, 0, none⟩) →
                      LeavesInM Fence.wide 3 Try.prog Try.f4 tmps (fun e w' => e = .returned (.bool true) ∧ Below w.heap.size w w') [mk1 DC, mk1 DB, mk1 DA] .returning (wr.drew.setCell ⟨w.heap.size, 0, none⟩ (.bool true)) := by
                    intro tmps ht
                    have hX2 : Below wr.heap.size wr wr.drew := (Below.refl _ _).drew
                    refine leaves_box (p := 2) (ty := 4) (g := w.heap.size) (t := 4) (B := w.heap.size) (w0 := w) rfl ht (fun w' hw => load_boolT hw) (Nat.le_refl _) [DC, DB, DA] _ (by simp; omega) (fun d hd => ?_) ((below_boxed_t hX2 h0).set _) ((bseq hBw hX2).setCell (p := ⟨w.heap.size, 0, none⟩) (Nat.le_refl _) _)
                    have key : ∀ d, w.heap.size < d → wr.heap[d]? = some (.deferred (some [])) → (wr.drew.setCell ⟨w.heap.size, 0, none⟩ (.bool true)).heap[d]? = some (.deferred (some [])) := fun d hd h => by
                      have e1 := (hX2.block d (Array.getElem?_eq_some_iff.1 h).1).trans h
                      refine ((grownBy_setCell' wr.drew w.heap.size (.bool true)).block d (Array.getElem?_eq_some_iff.1 e1).1 (fun e => ?_)).trans e1
                      have := Option.some.inj e
                      omega
                    simp only [List.mem_cons, List.not_mem_nil, or_false] at hd
                    rcases hd with rfl | rfl | rfl
                    · exact ⟨by omega, key _ (by omega) hKC⟩
                    · exact ⟨by omega, key _ (by omega) hKB⟩
                    · exact ⟨by omega, key _ (by omega) hKA⟩
                  have hS0 : wr.drew.cell? ⟨X0.heap.size, 0, none⟩ = some (.int .i64 (k : Int)) ∧ wr.drew.cell? ⟨w1.heap.size, 0, none⟩ = some (.int .i64 (k : Int)) := ⟨cn, d1⟩
                  have d0 : wr.drew.cell? ⟨w.heap.size, 0, none⟩ = some (.bool false) := h0.cell
                  have d0f : wr.drew.frozen? ⟨w.heap.size, 0, none⟩ = false := h0.frozen
                  have hno : decide ((k : Int) < (k : Int)) = false := by simp
                  have hee : ((k : Int) == (k : Int)) = true := by simp
                  have ENDS := hide endS
                  clear endS h0 h1 h2 h3 hsu hsn hBw hn hKA hKB hKC hBr hfil
                  gi_wp2_with (fail)
                  refine wpIn_wide.2 (Go.wp_mono (Q := noPO _) ?_ noPO_le)
                  refine wp_region_held_drew (S := fun W => W.cell? ⟨X0.heap.size, 0, none⟩ = some (.int .i64 (k : Int)) ∧ W.cell? ⟨w1.heap.size, 0, none⟩ = some (.int .i64 (k : Int))) (by kernel_rfl) hS0 (fun hS => ?_)
                  refine wpAnyH_take (i := 0) (v := .int .i64 (k : Int)) rfl (by kernel_rfl) (by kernel_rfl) (by kernel_rfl) (fun _ _ _ h => h) (Or.inl ⟨by kernel_rfl, fun w' hw => by (obtain ⟨z0, z1⟩ := hw; go_simp)⟩) hS ?_
                  refine wpAnyH_take (i := 1) (v := .int .i64 (k : Int)) rfl (by kernel_rfl) (by kernel_rfl) (by kernel_rfl) (fun _ _ _ h => h) (Or.inl ⟨by kernel_rfl, fun w' hw => by (obtain ⟨z0, z1⟩ := hw; go_simp)⟩) hS ?_
                  refine wpAnyH_take (i := 2) (v := .bool false) rfl (by kernel_rfl) (by kernel_rfl) (by kernel_rfl) (fun _ _ _ h => h) (Or.inl ⟨by kernel_rfl, fun w' hw => by (obtain ⟨z0, z1⟩ := hw; go_simp)⟩) hS ?_
                  refine wpAnyH_take (i := 3) (v := .bool false) rfl (by kernel_rfl) (by kernel_rfl) (by kernel_rfl) (fun _ _ _ h => h) (Or.inl ⟨by kernel_rfl, fun w' hw => by (obtain ⟨z0, z1⟩ := hw; go_simp)⟩) hS ?_
                  refine wpAnyH_take (i := 4) (v := undef) rfl (by kernel_rfl) (by kernel_rfl) (by kernel_rfl) (fun _ _ _ h => h) (Or.inr ⟨by kernel_rfl, rfl⟩) hS ?_
                  refine wpAnyH_take (i := 5) (v := undef) rfl (by kernel_rfl) (by kernel_rfl) (by kernel_rfl) (fun _ _ _ h => h) (Or.inr ⟨by kernel_rfl, rfl⟩) hS ?_
                  refine wpAnyH_take (i := 6) (v := undef) rfl (by kernel_rfl) (by kernel_rfl) (by kernel_rfl) (fun _ _ _ h => h) (Or.inr ⟨by kernel_rfl, rfl⟩) hS ?_
                  refine wpAnyH_take (i := 7) (v := undef) rfl (by kernel_rfl) (by kernel_rfl) (by kernel_rfl) (fun _ _ _ h => h) (Or.inr ⟨by kernel_rfl, rfl⟩) hS ?_
                  refine wpAnyH_take (i := 8) (v := undef) rfl (by kernel_rfl) (by kernel_rfl) (by kernel_rfl) (fun _ _ _ h => h) (Or.inr ⟨by kernel_rfl, rfl⟩) hS ?_
                  refine wpAnyH_take (i := 9) (v := undef) rfl (by kernel_rfl) (by kernel_rfl) (by kernel_rfl) (fun _ _ _ h => h) (Or.inr ⟨by kernel_rfl, rfl⟩) hS ?_
                  refine wpAnyH_take (i := 10) (v := undef) rfl (by kernel_rfl) (by kernel_rfl) (by kernel_rfl) (fun _ _ _ h => h) (Or.inr ⟨by kernel_rfl, rfl⟩) hS ?_
                  refine wpAnyH_take (i := 11) (v := undef) rfl (by kernel_rfl) (by kernel_rfl) (by kernel_rfl) (fun _ _ _ h => h) (Or.inr ⟨by kernel_rfl, rfl⟩) hS ?_
                  refine wpAnyH_take (i := 12) (v := undef) rfl (by kernel_rfl) (by kernel_rfl) (by kernel_rfl) (fun _ _ _ h => h) (Or.inr ⟨by kernel_rfl, rfl⟩) hS ?_
                  refine wpAnyH_take (i := 13) (v := undef) rfl (by kernel_rfl) (by kernel_rfl) (by kernel_rfl) (fun _ _ _ h => h) (Or.inr ⟨by kernel_rfl, rfl⟩) hS ?_
                  refine wpAnyH_take (i := 14) (v := undef) rfl (by kernel_rfl) (by kernel_rfl) (by kernel_rfl) (fun _ _ _ h => h) (Or.inr ⟨by kernel_rfl, rfl⟩) hS ?_
                  refine wpAnyH_take (i := 15) (v := undef) rfl (by kernel_rfl) (by kernel_rfl) (by kernel_rfl) (fun _ _ _ h => h) (Or.inr ⟨by kernel_rfl, rfl⟩) hS ?_
                  refine wpAnyH_take (i := 16) (v := undef) rfl (by kernel_rfl) (by kernel_rfl) (by kernel_rfl) (fun _ _ _ h => h) (Or.inr ⟨by kernel_rfl, rfl⟩) hS ?_
                  refine wpAnyH_take (i := 17) (v := undef) rfl (by kernel_rfl) (by kernel_rfl) (by kernel_rfl) (fun _ _ _ h => h) (Or.inr ⟨by kernel_rfl, rfl⟩) hS ?_
                  refine wpAnyH_take (i := 18) (v := undef) rfl (by kernel_rfl) (by kernel_rfl) (by kernel_rfl) (fun _ _ _ h => h) (Or.inr ⟨by kernel_rfl, rfl⟩) hS ?_
                  refine wpAnyH_take (i := 19) (v := undef) rfl (by kernel_rfl) (by kernel_rfl) (by kernel_rfl) (fun _ _ _ h => h) (Or.inr ⟨by kernel_rfl, rfl⟩) hS ?_
                  refine wpAnyH_take (i := 20) (v := undef) rfl (by kernel_rfl) (by kernel_rfl) (by kernel_rfl) (fun _ _ _ h => h) (Or.inr ⟨by kernel_rfl, rfl⟩) hS ?_
                  refine wpAnyH_take (i := 21) (v := undef) rfl (by kernel_rfl) (by kernel_rfl) (by kernel_rfl) (fun _ _ _ h => h) (Or.inr ⟨by kernel_rfl, rfl⟩) hS ?_
                  refine wpAnyH_take (i := 22) (v := .bool false) rfl (by kernel_rfl) (by kernel_rfl) (by kernel_rfl) (fun _ _ _ h => h) (Or.inl ⟨by kernel_rfl, fun w' hw => by (obtain ⟨z0, z1⟩ := hw; go_simp)⟩) hS ?_
                  refine wpAnyH_done (by kernel_rfl) (noPO_normal ?_) _
                  try simp only [Act.put, List.getElem_toArray, List.getElem_cons_zero, List.getElem_cons_succ, List.setIfInBounds_toArray, List.set_cons_zero, List.set_cons_succ]
                  obtain ⟨s0', s1'⟩ := hS
                  gi_wp2
                  exact ENDS.out _ rfl
  · have hbI : (3000 : Int) < (s0.size : Int) := by omega
    have h3 : (3000 : Int) ≤ (s0.size : Int) := by omega
    gi_wp2_with (refine ⟨trivial, ?_⟩; gi_at_call 6; refine ((callsIn_wide).2 (awake_any _)).mono ?_; rintro e w1 ⟨rfl, hB1⟩)
    obtain ⟨s, hse⟩ : ∃ s, s = s0.extract 0 3000 := ⟨_, rfl⟩
    have hs : s.size ≤ 3000 := by rw [hse, ByteArray.size_extract]; omega
    simp only [← hse]
    clear hse hbig hs0 hbI h3
    generalize s0.size = sz at *
    obtain ⟨i0, hi, hz0, hz1, hz2⟩ := info_parts Try.info32
    obtain ⟨j0, hj, hy0, hy1, hy2⟩ := info_parts Try.info64t
    have hll := Cs_len_le (bl s)
    rw [bl_len] at hll
    have hBx : Below w.heap.size w (w.alloc (.cells #[.bool false] 4)) := (Below.refl _ w).alloc (Nat.le_refl _) _
    have b0 := below_boxed_t hB1 (Boxed.new w 4 (.bool false))
    have hB01 := bseq hBx hB1
    have hw1 : w.heap.size + 1 ≤ w1.heap.size := by have := hB1.size; simp at this; omega
    have facts : ∀ X, Below w1.heap.size w1 X → Boxed X w.heap.size 4 (.bool false) ∧ Below w.heap.size w X := fun X hX => ⟨below_boxed_t hX b0, bseq hB01 hX⟩
    have F1 := hide facts
    have bn := (((Boxed.new w1 3 (.int .i64 0)).alloc (.cells #[.slice none 0 0] 32)).alloc (.cells #[.slice none 0 0] 33)).alloc (.stringIter s 0)
    have br := ((Boxed.new (w1.alloc (.cells #[.int .i64 0] 3)) 32 (.slice none 0 0)).alloc (.cells #[.slice none 0 0] 33)).alloc (.stringIter s 0)
    have bp := (Boxed.new ((w1.alloc (.cells #[.int .i64 0] 3)).alloc (.cells #[.slice none 0 0] 32)) 33 (.slice none 0 0)).alloc (.stringIter s 0)
    have hit := World.iter_heap (((w1.alloc (.cells #[.int .i64 0] 3)).alloc (.cells #[.slice none 0 0] 32)).alloc (.cells #[.slice none 0 0] 33)) s 0
    have hBn : Below w1.heap.size w1 ((((w1.alloc (.cells #[.int .i64 0] 3)).alloc (.cells #[.slice none 0 0] 32)).alloc (.cells #[.slice none 0 0] 33)).alloc (.stringIter s 0)) := ((((Below.refl _ w1).alloc (Nat.le_refl _) _).alloc (by simp) _).alloc (by simp; omega) _).alloc (by simp; omega) _
    have hszn : ((((w1.alloc (.cells #[.int .i64 0] 3)).alloc (.cells #[.slice none 0 0] 32)).alloc (.cells #[.slice none 0 0] 33)).alloc (.stringIter s 0)).heap.size = w1.heap.size + 4 := by simp
    simp only [World.size_alloc] at br bp hit
    simp only [Nat.add_assoc, Nat.reduceAdd] at br bp hit ⊢
    change (((((w1.alloc (.cells #[.int .i64 0] 3)).alloc (.cells #[.slice none 0 0] 32)).alloc (.cells #[.slice none 0 0] 33)).alloc (.stringIter s 0)).heap[w1.heap.size + 3]?) = _ at hit
    change Code.wpIn _ _ _ _ _ _ ((((w1.alloc (.cells #[.int .i64 0] 3)).alloc (.cells #[.slice none 0 0] 32)).alloc (.cells #[.slice none 0 0] 33)).alloc (.stringIter s 0))
    generalize (((w1.alloc (.cells #[.int .i64 0] 3)).alloc (.cells #[.slice none 0 0] 32)).alloc (.cells #[.slice none 0 0] 33)).alloc (.stringIter s 0) = W0 at *
    clear facts b0 hB01 hBx hB1
    refine wpIn_wide.2 ?_
    go_loopw [6] (fun _ wr => ∃ (pos k : Nat) (v1 v2 : Value), pos ≤ s.size ∧ Inv (bl s) pos k ∧ GG w1 s wr pos k k k v1 v2 (((Cs 0 (bl s)).take k).map R32e) (((Cs 0 (bl s)).take k).map I64e)) (fun _ wr => s.size - wr.iterPos (w1.heap.size + 3))
    case atStart => exact ⟨0, 0, _, _, by omega, Inv.start _, hit, bn, ⟨br, World.ownsRow_nil _ _ _ _⟩, ⟨bp, World.ownsRow_nil _ _ _ _⟩, hBn, by omega⟩
    case round =>
      obtain ⟨pos, k, v1, v2, hps, hI, hG⟩ := hrel
      clear bn br bp hBn hszn hit
      have hit := hG.1
      have HIT := hide hit
      by_cases hlt : pos < s.size
      · have hnx : ∀ ty, (Instr.next (.pointer (some ⟨w1.heap.size + 3, 0, none⟩)) true ty).run Try.prog wr = _ := fun ty => next_at' wr (w1.heap.size + 3) s pos ty hit hlt
        obtain ⟨f1, f2, f3, f4⟩ := at_char hI (by rw [bl_len]; exact hlt)
        have hh := hI.here (by rw [bl_len]; exact hlt)
        have hst := hI.step (by rw [bl_len]; exact hlt)
        have h1 := cw_pos ((bl s).drop pos)
        have h2 := cw_len _ (bl_drop_ne hlt)
        rw [List.length_drop, bl_len] at h2
        have hkl : k < (Cs 0 (bl s)).length := (List.getElem?_eq_some_iff.1 hh).1
        have htk : (Cs 0 (bl s)).take (k + 1) = (Cs 0 (bl s)).take k ++ [(pos, rune ((bl s).drop pos), cw ((bl s).drop pos))] := (take_snoc hh).symm
        have ka := fun w' => at_any s (k : Int) w' (by omega)
        have ko := fun w' => of_any s (pos : Int) w' (by omega)
        have kb := fun w' => begins_any s (pos : Int) w' (by omega)
        have kf := fun w' => first_any (s.extract pos s.size) w' (by simp; omega)
        rw [f1] at ka
        rw [f2] at ko
        rw [f3] at kb
        rw [bl_from, f4] at kf
        have hr1 : ((Cs 0 (bl s)).take (k + 1)).map R32e = ((Cs 0 (bl s)).take k).map R32e ++ [.int .i32 (rune ((bl s).drop pos) : Int)] := by rw [htk, List.map_append]; rfl
        have hp1 : ((Cs 0 (bl s)).take (k + 1)).map I64e = ((Cs 0 (bl s)).take k).map I64e ++ [.int .i64 (pos : Int)] := by rw [htk, List.map_append]; rfl
        generalize (firstV ((bl s).drop pos)).2.1 = fw at *
        generalize (firstV ((bl s).drop pos)).2.2 = fr at *
        generalize rune ((bl s).drop pos) = r at *
        generalize hc : cw ((bl s).drop pos) = c at *
        generalize ((Cs 0 (bl s)).take k).map R32e = L1 at *
        generalize ((Cs 0 (bl s)).take k).map I64e = L2 at *
        have hG2 := hG.iter (pos + c)
        generalize hW : wr.iterAt (w1.heap.size + 3) s (pos + c) = W2 at *
        have hposI : (pos : Int) ≤ (s.size : Int) := by omega
        have hkI : (k : Int) ≤ 3000 := by omega
        have cn := hG2.2.1.cell
        have HG2 := hide hG2
        have HST := hide hst
        have HR1 := hide hr1
        have HP1 := hide hp1
        have KA := hide ka
        have KO := hide ko
        have KB := hide kb
        have KF := hide kf
        have hk0 : k ≤ 3000 := by omega
        have e1 : ((pos : Int) != (pos : Int)) = false := by simp
        have e2 : ((k : Int) != (k : Int)) = false := by simp
        have e3 : ((r : Int) != (r : Int)) = false := by simp
        have N1 := hide trivial
        clear hG hG2 hst hr1 hp1 ka ko kb kf hI hh htk hit hc f1 f2 f3 f4 hW
        go_upto_region 16 with (first
          | (go_at_call 11; refine (KA.out _).mono ?_; rintro e x1 ⟨rfl, hX1⟩)
          | (go_at_call 12; refine (KO.out _).mono ?_; rintro e x2 ⟨rfl, hX2⟩)
          | (go_at_call 13; refine (KF.out _).mono ?_; rintro e x3 ⟨rfl, hX3⟩; have cn3 := (HG2.out.below (bseq (bseq hX1 hX2) hX3)).2.1.cell)
          | (go_at_call 14; refine (KB.out _).mono ?_; rintro e x4 ⟨rfl, hX4⟩))
        have hG4 := HG2.out.below (bseq (bseq (bseq hX1 hX2) hX3) hX4)
        have cn4 := hG4.2.1.cell
        have fn4 := hG4.2.1.frozen
        have hG5 := hG4.setN (k + 1)
        have hk1 : (((k + 1 : Nat) : Int)) = (k : Int) + 1 := by omega
        rw [hk1] at hG5
        have cr5 := hG5.2.2.1.1.cell
        have HG5 := hide hG5
        clear hX1 hX2 hX3 hX4 cn3 hG4 hG5 HG2 cn hk1 KA KO KF KB
        go_upto_region 17 with (fail)
        generalize x4.setCell ⟨w1.heap.size, 0, none⟩ (.int .i64 ((k : Int) + 1)) = X5 at *
        clear cn4 fn4
        go_upto_region 18 with (at_builtin; refine wpList_append_own _ rfl _ _ 32 rfl (w1.heap.size + 4) 21 i0 (.int .i32 0) 1 4 Try.underlying32 hi hz0 hz1 hz2 rfl (by decide) v1 k L1 rfl (HG5.out.2.2.1.2.alloc _) ⟨X5.heap.size, 0, none⟩ 1 1 [.int .i32 (r : Int)] rfl rfl (cell_one_new _ _ _) (by simp [Value.oneCell']) (by simp only [maxLen]; omega) (by omega) (by have := HG5.out.2.2.2.2.2; simp; omega) ?_; intro v1' w6 hown1 hg1 _; obtain ⟨gv, gc, rfl⟩ := row_valT hown1; obtain ⟨⟨c6, f6⟩, hG7⟩ := HG5.out.row1 hg1 hown1; replace hG7 := hide hG7)
        have cp7 := hG7.out.2.2.2.1.1.cell
        generalize w6.setCell ⟨w1.heap.size + 1, 0, none⟩ _ = X7 at *
        clear c6 f6 hg1 hown1 HG5 cr5
        go_wp2_with (at_builtin; refine wpList_append_own _ rfl _ _ 33 rfl (w1.heap.size + 4) 3 j0 (.int .i64 0) 1 8 Try.underlying33 hj hy0 hy1 hy2 rfl (by decide) v2 k L2 rfl (hG7.out.2.2.2.1.2.alloc _) ⟨X7.heap.size, 0, none⟩ 1 1 [.int .i64 (pos : Int)] rfl rfl (cell_one_new _ _ _) (by simp [Value.oneCell']) (by simp only [maxLen]; omega) (by omega) (by have := hG7.out.2.2.2.2.2; simp; omega) ?_; intro v2' w8 hown2 hg2 _; obtain ⟨gv2, gc2, rfl⟩ := row_valT hown2; obtain ⟨⟨c8, f8⟩, hG9⟩ := hG7.out.row2 hg2 hown2; replace hG9 := hide hG9)
        go_roundw
        case rel => exact ⟨pos + c, k + 1, _, _, by omega, HST.out, by rw [HR1.out, HP1.out]; exact hG9.out⟩
        case measure =>
          have e1 : World.iterPos (w8.setCell ⟨w1.heap.size + 2, 0, none⟩ _) (w1.heap.size + 3) = pos + c := iterPos_of hG9.out.1
          have e2 : wr.iterPos (w1.heap.size + 3) = pos := iterPos_of HIT.out
          rw [e1, e2]; omega
      · have hpe : pos = s.size := by omega
        subst hpe
        have hnx : ∀ ty, (Instr.next (.pointer (some ⟨w1.heap.size + 3, 0, none⟩)) true ty).run Try.prog wr = _ := fun ty => Lib.run_next_end_at wr (w1.heap.size + 3) s s.size ty hit hlt
        have hfin := hI.fin (by rw [bl_len]; exact Nat.le_refl _)
        rw [hfin, List.take_length] at hG
        obtain ⟨NC, hNC⟩ : ∃ NC, (Cs 0 (bl s)).length = NC := ⟨_, rfl⟩
        have HNC := hide hNC
        rw [hNC] at hG hll hfin
        have hrz : (Cs 0 (bl s)).map R32e = (runesZ (bl s)).map R32 := by unfold runesZ; rw [List.map_map]; rfl
        rw [hrz] at hG
        have hzl : (runesZ (bl s)).length = NC := by rw [runesZ_len, hNC]
        obtain ⟨a1, c1, rfl, hsu⟩ := sluB hG.2.2.1.2 hzl
        have hNCI : (NC : Int) ≤ 3000 := by omega
        have kc : ∀ w', Calls Try.prog 15 #[.string s] w' fun e w'' => e = .returned (.int .i64 (NC : Int)) ∧ Below w'.heap.size w' w'' := fun w' => by
          have := count_any s w' (by omega)
          rw [hNC] at this
          exact this
        have kr : ∀ w', Calls Try.prog 17 #[.string s] w' fun e w'' => (∃ g, e = .returned (.slice (some ⟨g, 0, none⟩) NC NC) ∧ SlU w'' (some ⟨g, 0, none⟩) (runesZ (bl s))) ∧ Below w'.heap.size w' w'' := fun w' => by
          have := runes_any s w' (by omega)
          rw [hNC] at this
          refine this.mono ?_
          rintro e w'' ⟨g, rfl, ho, hB⟩
          obtain ⟨a', c', e1, hs⟩ := sluB ho hzl
          cases e1
          exact ⟨⟨g, rfl, hs⟩, hB⟩
        have ksm := fun a b c d w' (ha : SlU w' a (runesZ (bl s))) (hb : SlU w' b (runesZ (bl s))) => same_yes a b c d (runesZ (bl s)) NC hzl w' ha hb (by omega)
        have kcv : ∀ w', ∃ c, (convert 9 32 (.string s)).run Try.prog w' = .ok (.slice (some ⟨w'.heap.size, 0, none⟩) NC c) (w'.drew.alloc (.cells (((runesZ (bl s)).map R32).toArray ++ Array.replicate (c - NC) (.int .i32 0)) 21)) := fun w' => by
          obtain ⟨c, hc⟩ := run_runesB s w' (by omega)
          rw [hzl] at hc
          exact ⟨c, hc⟩
        have mk : ∀ W, Below wr.heap.size wr W → W.cell? ⟨w1.heap.size, 0, none⟩ = some (.int .i64 (NC : Int)) ∧ W.cell? ⟨w1.heap.size + 1, 0, none⟩ = some (.slice a1 NC c1) := fun W hW => ⟨(hG.below hW).2.1.cell, (hG.below hW).2.2.1.1.cell⟩
        have hsuB : ∀ W, Below wr.heap.size wr W → SlU W a1 (runesZ (bl s)) := fun W hW => hsu.below hW
        have KC := hide kc
        have KR := hide kr
        have KSM := hide ksm
        have KCV := hide kcv
        have MK := hide mk
        have HSU := hide hsuB
        have HG := hide hG
        have hne : ((NC : Int) != (NC : Int)) = false := by simp
        have HZL := hide hzl
        clear kc kr ksm kcv mk hsuB hsu hG hI hrz hNC hfin hit hzl
        go_wp2_with (fail)
        gi_wp2_with (fail)
        refine wpIn_wide.2 (Go.wp_mono (Q := noPan _) ?_ noPan_le)
        refine wp_region_held_drew (S := fun W => W.cell? ⟨w1.heap.size, 0, none⟩ = some (.int .i64 (NC : Int)) ∧ W.cell? ⟨w1.heap.size + 1, 0, none⟩ = some (.slice a1 NC c1)) (by kernel_rfl) (MK.out _ (Below.refl _ wr).drew) (fun hS => ?_)
        refine wpAnyH_take (i := 0) (v := .string s) rfl (by kernel_rfl) (by kernel_rfl) (by kernel_rfl) (fun _ _ _ h => h) (Or.inl ⟨by kernel_rfl, fun w' hw => by (obtain ⟨z0, z1⟩ := hw; go_simp)⟩) hS ?_
        refine wpAnyH_take (i := 2) (v := .int .i64 (NC : Int)) rfl (by kernel_rfl) (by kernel_rfl) (by kernel_rfl) (fun _ _ _ h => h) (Or.inl ⟨by kernel_rfl, fun w' hw => by (obtain ⟨z0, z1⟩ := hw; go_simp)⟩) hS ?_
        refine wpAnyH_ready (rs := [1]) (by kernel_rfl) (by simp) ?_
        refine AllReadyH.cons rfl (fun K hK => ?_) AllReadyH.nil
        rw [if_pos (by kernel_rfl)]
        go_simp
        go_wp2_with (go_at_call 15; refine (KC.out _).mono ?_; rintro e X2 ⟨rfl, hB2⟩)
        have hBq : Below wr.heap.size wr X2 := bseq (Below.refl _ wr).drew hB2
        have hS := MK.out _ hBq
        refine hK.out _ _ hS (fun _ => ?_)
        clear hK K
        refine wpAnyH_take (i := 3) (v := .bool false) rfl (by kernel_rfl) (by kernel_rfl) (by kernel_rfl) (fun _ _ _ h => h) (Or.inl ⟨by kernel_rfl, fun w' hw => by (obtain ⟨z0, z1⟩ := hw; go_simp)⟩) hS ?_
        refine wpAnyH_take (i := 4) (v := .bool false) rfl (by kernel_rfl) (by kernel_rfl) (by kernel_rfl) (fun _ _ _ h => h) (Or.inl ⟨by kernel_rfl, fun w' hw => by (obtain ⟨z0, z1⟩ := hw; go_simp)⟩) hS ?_
        refine wpAnyH_take (i := 5) (v := .string s) rfl (by kernel_rfl) (by kernel_rfl) (by kernel_rfl) (fun _ _ _ h => h) (Or.inl ⟨by kernel_rfl, fun w' hw => by (obtain ⟨z0, z1⟩ := hw; go_simp)⟩) hS ?_
        refine wpAnyH_take (i := 7) (v := .slice a1 NC c1) rfl (by kernel_rfl) (by kernel_rfl) (by kernel_rfl) (fun _ _ _ h => h) (Or.inl ⟨by kernel_rfl, fun w' hw => by (obtain ⟨z0, z1⟩ := hw; go_simp)⟩) hS ?_
        refine wpAnyH_ready (rs := [6]) (by kernel_rfl) (by simp) ?_
        refine AllReadyH.cons rfl (fun K hK => ?_) AllReadyH.nil
        rw [if_pos (by kernel_rfl)]
        go_simp
        go_wp2_with (go_at_call 17; refine (KR.out _).mono ?_; rintro e X3 ⟨⟨gs, rfl, hgs⟩, hB3⟩)
        replace hBq := bseq hBq hB3
        have hS := MK.out _ hBq
        refine hK.out _ _ hS (fun _ => ?_)
        clear hK K
        refine wpAnyH_ready (rs := [8]) (by kernel_rfl) (by simp) ?_
        refine AllReadyH.cons rfl (fun K hK => ?_) AllReadyH.nil
        rw [if_pos (by kernel_rfl)]
        go_simp
        go_wp2_with (go_at_call 16; refine (KSM.out _ _ _ _ _ hgs (HSU.out _ hBq)).mono ?_; rintro e X4 ⟨rfl, hB4⟩)
        replace hBq := bseq hBq hB4
        have hS := MK.out _ hBq
        refine hK.out _ _ hS (fun _ => ?_)
        clear hK K
        clear hgs
        refine wpAnyH_take (i := 9) (v := .bool false) rfl (by kernel_rfl) (by kernel_rfl) (by kernel_rfl) (fun _ _ _ h => h) (Or.inl ⟨by kernel_rfl, fun w' hw => by (obtain ⟨z0, z1⟩ := hw; go_simp)⟩) hS ?_
        refine wpAnyH_take (i := 10) (v := .bool false) rfl (by kernel_rfl) (by kernel_rfl) (by kernel_rfl) (fun _ _ _ h => h) (Or.inl ⟨by kernel_rfl, fun w' hw => by (obtain ⟨z0, z1⟩ := hw; go_simp)⟩) hS ?_
        refine wpAnyH_take (i := 11) (v := .bool false) rfl (by kernel_rfl) (by kernel_rfl) (by kernel_rfl) (fun _ _ _ h => h) (Or.inl ⟨by kernel_rfl, fun w' hw => by (obtain ⟨z0, z1⟩ := hw; go_simp)⟩) hS ?_
        refine wpAnyH_take (i := 12) (v := .string s) rfl (by kernel_rfl) (by kernel_rfl) (by kernel_rfl) (fun _ _ _ h => h) (Or.inl ⟨by kernel_rfl, fun w' hw => by (obtain ⟨z0, z1⟩ := hw; go_simp)⟩) hS ?_
        refine wpAnyH_take (i := 14) (v := .slice a1 NC c1) rfl (by kernel_rfl) (by kernel_rfl) (by kernel_rfl) (fun _ _ _ h => h) (Or.inl ⟨by kernel_rfl, fun w' hw => by (obtain ⟨z0, z1⟩ := hw; go_simp)⟩) hS ?_
        obtain ⟨c, hc1⟩ := KCV.out X4
        refine wpAnyH_ready (rs := [13]) (by kernel_rfl) (by simp) ?_
        refine AllReadyH.cons rfl (fun K hK => ?_) AllReadyH.nil
        rw [if_pos (by kernel_rfl)]
        go_simp
        have hBA : Below X4.heap.size X4 (X4.alloc (.cells (((runesZ (bl s)).map R32).toArray ++ Array.replicate (c - NC) (.int .i32 0)) 21)).drew := ((Below.refl _ X4).alloc (Nat.le_refl _) _).drew
        replace hBq := bseq hBq hBA
        have hS := MK.out _ hBq
        refine hK.out _ _ hS (fun _ => ?_)
        clear hK K
        have hgn : SlU (X4.alloc (.cells (((runesZ (bl s)).map R32).toArray ++ Array.replicate (c - NC) (.int .i32 0)) 21)).drew (some ⟨X4.heap.size, 0, none⟩) (runesZ (bl s)) := slu_new X4 (runesZ (bl s)) _
        generalize (X4.alloc (.cells (((runesZ (bl s)).map R32).toArray ++ Array.replicate (c - NC) (.int .i32 0)) 21)).drew = X5 at *
        clear hc1
        refine wpAnyH_ready (rs := [15]) (by kernel_rfl) (by simp) ?_
        refine AllReadyH.cons rfl (fun K hK => ?_) AllReadyH.nil
        rw [if_pos (by kernel_rfl)]
        go_simp
        go_wp2_with (go_at_call 16; refine (KSM.out _ _ _ _ _ hgn (HSU.out _ hBq)).mono ?_; rintro e X6 ⟨rfl, hB6⟩)
        replace hBq := bseq hBq hB6
        have hS := MK.out _ hBq
        refine hK.out _ _ hS (fun _ => ?_)
        clear hK K
        clear hgn
        refine wpAnyH_take (i := 16) (v := .bool false) rfl (by kernel_rfl) (by kernel_rfl) (by kernel_rfl) (fun _ _ _ h => h) (Or.inl ⟨by kernel_rfl, fun w' hw => by (obtain ⟨z0, z1⟩ := hw; go_simp)⟩) hS ?_
        refine wpAnyH_take (i := 17) (v := .bool false) rfl (by kernel_rfl) (by kernel_rfl) (by kernel_rfl) (fun _ _ _ h => h) (Or.inl ⟨by kernel_rfl, fun w' hw => by (obtain ⟨z0, z1⟩ := hw; go_simp)⟩) hS ?_
        refine wpAnyH_done (by kernel_rfl) (noPan_normal ?_) _
        try simp only [Act.put, List.getElem_toArray, List.getElem_cons_zero, List.getElem_cons_succ, List.setIfInBounds_toArray, List.set_cons_zero, List.set_cons_succ]
        have hG6 := HG.out.below hBq
        have HG6 := hide hG6
        clear hS hBq KC KR KSM KCV MK HSU HG
        have cp := hG6.2.2.2.1.1.cell
        clear hG6
        gi_wp2_with (first | (refine ⟨trivial, ?_⟩; gi_at_call 8; refine (uall_in s _).mono ?_; rintro e w' ⟨rfl, rfl⟩) | (gi_at_builtin; refine wpListIn_append_own _ rfl _ _ 33 rfl (w1.heap.size + 4) 3 j0 (.int .i64 0) 1 8 Try.underlying33 hj hy0 hy1 hy2 rfl (by decide) v2 NC _ rfl (HG6.out.2.2.2.1.2.alloc _) ⟨X6.heap.size, 0, none⟩ 1 1 [.int .i64 (s.size : Int)] rfl rfl (cell_one_new _ _ _) (by simp [Value.oneCell']) (by simp only [maxLen]; omega) (by omega) (by have := HG6.out.2.2.2.2.2; simp; omega) ?_; intro v2' w8 hown2 hg2 _; obtain ⟨gv2, gc2, rfl⟩ := row_valT hown2; obtain ⟨⟨c8, f8⟩, hG9⟩ := HG6.out.row2 hg2 hown2; replace hG9 := hide hG9))
        have hG0 := hG9.out
        have hpv : (Cs 0 (bl s)).map I64e ++ [.int .i64 (s.size : Int)] = (PLi 0 (bl s)).map (Value.int .i64) := by
          unfold PLi
          rw [List.map_append, List.map_map, Nat.zero_add, bl_len]; rfl
        rw [hpv] at hG0
        have hPl : (PLi 0 (bl s)).length = NC + 1 := by rw [PLi_len, HNC.out]
        have hsn := slnV hG0.2.2.2.1.2 hPl
        have hsr := (sluB hG0.2.2.1.2 HZL.out)
        obtain ⟨a1', c1', e1, hsr⟩ := hsr
        cases e1
        clear hpv HG6 cp c8 f8 hg2 hown2 hG9
        obtain ⟨X0, hX0⟩ : ∃ X0, w8.setCell ⟨w1.heap.size + 2, 0, none⟩ (.slice (some ⟨gv2, 0, none⟩) (NC + 1) gc2) = X0 := ⟨_, rfl⟩
        have hxs : w8.heap.size = X0.heap.size := by rw [← hX0]; simp [World.setCell]
        rw [hX0] at hG0 hsn hsr ⊢
        clear hX0
        simp only [hxs]
        clear hxs
        have facts : ∀ X, Below X0.heap.size X0 X → Boxed X w.heap.size 4 (.bool false) ∧ Boxed X w1.heap.size 3 (.int .i64 (NC : Int)) ∧ Boxed X (w1.heap.size + 1) 32 (.slice a1 NC c1) ∧ Boxed X (w1.heap.size + 2) 33 (.slice (some ⟨gv2, 0, none⟩) (NC + 1) gc2) ∧ SlU X a1 (runesZ (bl s)) ∧ SlN X (some ⟨gv2, 0, none⟩) (PLi 0 (bl s)) ∧ Below w.heap.size w X := fun X hX => by
          have hg := hG0.below hX
          obtain ⟨k1, k2⟩ := F1.out X hg.2.2.2.2.1
          exact ⟨k1, hg.2.1, hg.2.2.1.1, hg.2.2.2.1.1, hsr.below hX, hsn.below hX, k2⟩
        have hX04 : w1.heap.size + 4 ≤ X0.heap.size := hG0.2.2.2.2.2
        have FX := hide facts
        clear facts hG0 hsn hsr F1
        have bn := (Boxed.new X0 3 (.int .i64 0)).alloc (.cells #[.string s] 9)
        have bs := Boxed.new (X0.alloc (.cells #[.int .i64 0] 3)) 9 (.string s)
        have hBn : Below X0.heap.size X0 ((X0.alloc (.cells #[.int .i64 0] 3)).alloc (.cells #[.string s] 9)) := ((Below.refl _ X0).alloc (Nat.le_refl _) _).alloc (by simp) _
        have hszn : ((X0.alloc (.cells #[.int .i64 0] 3)).alloc (.cells #[.string s] 9)).heap.size = X0.heap.size + 2 := by simp
        simp only [World.size_alloc] at bs
        generalize (X0.alloc (.cells #[.int .i64 0] 3)).alloc (.cells #[.string s] 9) = WA at *
        apply rangeX (gf := 27) (lb := #[.pointer (some ⟨X0.heap.size + 1, 0, none⟩)]) (encs := encC) rfl (enters_of Try.func27 (by kernel_rfl) rfl)
          (uall_x (fun _ => False) (fun k => k = X0.heap.size + 1) (X0.heap.size + 1) s WA (by omega) (by omega) bs.cell) (Below.refl _ _) (fun k h => by omega) (fun _ => rfl)
          (fun pre X => Boxed X X0.heap.size 3 (.int .i64 (pre.length : Int)) ∧ Below X0.heap.size X0 X)
          (fun c pre X => False)
          (Stab.and (Stab.boxed _ _ (by omega)) (Stab.below (by omega) (Nat.le_refl _)))
          (fun c => Stab.pure (fun _ => False))
          ⟨bn, hBn⟩
        case hassign =>
          intro l' x X K hK
          simp only [encC]
          gi_wp2
          exact hK
        case hstop => rintro D c pre X hD hpre h; exact h.elim
        case hbody =>
          rintro l' pre x X ⟨hn, hBX⟩ hpx
          obtain ⟨hpl, hget⟩ := take_of_preT hpx
          obtain ⟨h0, h1, h2, h3, hsu, hsn, hBw⟩ := FX.out X hBX
          rw [HNC.out] at hpl
          obtain ⟨br, or, rfl, hcr⟩ := hsu.get (k := pre.length) (by rw [HZL.out]; exact hpl)
          obtain ⟨bp, op, ebp, hcp⟩ := hsn.get (k := pre.length) (by rw [hPl]; omega)
          cases ebp
          have y0 := hcp _ _ (PLi_here 0 _ _ _ hget)
          have y1 := hcr _ _ (runesZ_get hget)
          simp only [Nat.zero_add] at y0
          have cn := hn.cell
          have fn' := hn.frozen
          have c1 := h1.cell
          have c2 := h2.cell
          have c3 := h3.cell
          have hltI : (pre.length : Int) < (NC : Int) := by omega
          have hltJ : (pre.length : Int) < (NC : Int) + 1 := by omega
          have hne : ((x.1 : Int) != (x.1 : Int)) = false := by simp
          have hne2 : ((x.2.1 : Int) != (x.2.1 : Int)) = false := by simp
          have HX := hide (And.intro hn hBX)
          clear hcr hcp hsu hsn h0 h1 h2 h3 hBw hn hBX hget hpx hBn bn bs
          gi_wp2
          obtain ⟨hn, hBX⟩ := HX.out
          refine ⟨Kp.set _ (fun h => by omega) (by omega), ?_, hBX.setCell (p := ⟨X0.heap.size, 0, none⟩) (Nat.le_refl _) _⟩
          have := hn.set (.int .i64 ((pre.length : Int) + 1))
          simpa using this
        case hdone =>
          rintro DA XA hDA ⟨hn, hBX⟩ hKA
          rw [HNC.out] at hn
          clear bn hBn bs
          obtain ⟨h0, h1, h2, h3, hsu, hsn, hBw⟩ := FX.out XA hBX
          have cn := hn.cell
          have c1 := h1.cell
          have hlA := (Array.getElem?_eq_some_iff.1 hKA).1
          have HK := hide (And.intro hKA (And.intro hn hBX))
          clear hKA hn hBX h0 h1 h2 h3 hsu hsn hBw
          gi_wp2_with (refine ⟨trivial, ?_⟩; gi_at_call 9; refine (uback_in s _).mono ?_; rintro e w' ⟨rfl, rfl⟩)
          obtain ⟨hKA, hn, hBX⟩ := HK.out
          have hszXA := hBX.size
          have bn := hn.alloc (.cells #[.string s] 9)
          have bs := Boxed.new XA 9 (.string s)
          have hBn : Below X0.heap.size X0 (XA.alloc (.cells #[.string s] 9)) := hBX.alloc (by omega) _
          have hKs : (XA.alloc (.cells #[.string s] 9)).heap[DA]? = some (.deferred (some [])) := (((Below.refl _ XA).alloc (Nat.le_refl _) (.cells #[.string s] 9)).block DA hlA).trans hKA
          have hszn2 : (XA.alloc (.cells #[.string s] 9)).heap.size = XA.heap.size + 1 := by simp
          generalize XA.alloc (.cells #[.string s] 9) = WB at *
          clear hKA hn hBX HK cn c1
          apply rangeX (gf := 28) (lb := #[.pointer (some ⟨XA.heap.size, 0, none⟩)]) (encs := encC) rfl (enters_of Try.func28 (by kernel_rfl) rfl)
            (uback_x (fun _ => False) (fun k => k = XA.heap.size) XA.heap.size s WB (by omega) rfl (by omega) bs.cell) (Below.refl _ _) (fun k h => by omega) (fun _ => rfl)
            (fun pre Y => (Boxed Y X0.heap.size 3 (.int .i64 ((NC : Int) - (pre.length : Int))) ∧ Y.heap[DA]? = some (.deferred (some []))) ∧ Below X0.heap.size X0 Y)
            (fun c pre Y => False)
            (Stab.and (Stab.and (Stab.boxed _ _ (by omega)) (Stab.at _ (by omega))) (Stab.below (by omega) (Nat.le_refl _)))
            (fun c => Stab.pure (fun _ => False))
            ⟨⟨by simpa using bn, hKs⟩, hBn⟩
          case hassign =>
            intro l' x X K hK
            simp only [encC]
            gi_wp2
            exact hK
          case hstop => rintro D c pre X hD hpre h; exact h.elim
          case hbody =>
            rintro l' pre x X ⟨⟨hn, hKD⟩, hBX⟩ hpx
            obtain ⟨hpl, hget⟩ := take_of_preT hpx
            rw [List.length_reverse] at hpl
            rw [List.getElem?_reverse hpl] at hget
            rw [HNC.out] at hget hpl
            obtain ⟨j, hjd⟩ : ∃ j, NC - 1 - pre.length = j := ⟨_, rfl⟩
            rw [hjd] at hget
            have hjl : j < NC := by omega
            obtain ⟨h0, h1, h2, h3, hsu, hsn, hBw⟩ := FX.out X hBX
            obtain ⟨br, or, rfl, hcr⟩ := hsu.get (k := j) (by rw [HZL.out]; exact hjl)
            obtain ⟨bp, op, ebp, hcp⟩ := hsn.get (k := j) (by rw [hPl]; omega)
            cases ebp
            have y0 := hcp _ _ (PLi_here 0 _ _ _ hget)
            have y1 := hcr _ _ (runesZ_get hget)
            simp only [Nat.zero_add] at y0
            have cn := hn.cell
            have fn' := hn.frozen
            have hjI : (NC : Int) - (pre.length : Int) = (j : Int) + 1 := by omega
            have hlNX : w1.heap.size + 4 ≤ X0.heap.size := hX04
            have cn' := (hn.set (.int .i64 (j : Int))).cell
            have c2' := (h2.other (B' := X0.heap.size) (by omega) (.int .i64 (j : Int))).cell
            have c3' := (h3.other (B' := X0.heap.size) (by omega) (.int .i64 (j : Int))).cell
            have hlr : br < X.heap.size := World.block_lt_of_cell? X _ y1
            rw [hjI] at cn
            have hbr : br ≠ X0.heap.size := fun e => by
              have hb : X.cell? ⟨X0.heap.size, or + j, none⟩ = some (.int .i32 (x.2.1 : Int)) := by rw [← e]; exact y1
              have hb2 : X.heap[X0.heap.size]? = _ := hn
              simp only [World.cell?, hb2] at hb
              cases hq : or + j with
              | zero => rw [hq] at hb; simp at hb
              | succ m => rw [hq] at hb; simp at hb
            have hbp : gv2 ≠ X0.heap.size := fun e => by
              have hlt := (Array.getElem?_eq_some_iff.1 (show _ = some _ from (FX.out X0 (Below.refl _ _)).2.2.2.1)).1
              obtain ⟨b', o', eb', hc'⟩ := (FX.out X0 (Below.refl _ _)).2.2.2.2.2.1.get (k := j) (by rw [hPl]; omega)
              cases eb'
              have := World.block_lt_of_cell? X0 _ (hc' _ _ (PLi_here 0 _ _ _ hget))
              have h9 : gv2 < X0.heap.size := this
              omega
            have y0' : (X.setCell ⟨X0.heap.size, 0, none⟩ (.int .i64 (j : Int))).cell? ⟨gv2, j, none⟩ = some (.int .i64 (x.1 : Int)) := by
              have hg := grownBy_setCell' X X0.heap.size (.int .i64 (j : Int))
              exact hg.cell y0 (fun e => hbp (by simpa using e))
            have y1' : (X.setCell ⟨X0.heap.size, 0, none⟩ (.int .i64 (j : Int))).cell? ⟨br, or + j, none⟩ = some (.int .i32 (x.2.1 : Int)) := by
              have hg := grownBy_setCell' X X0.heap.size (.int .i64 (j : Int))
              exact hg.cell y1 (fun e => hbr (by simpa using e))
            have hltI : (j : Int) < (NC : Int) := by omega
            have hltJ : (j : Int) < (NC : Int) + 1 := by omega
            have hne : ((x.1 : Int) != (x.1 : Int)) = false := by simp
            have hne2 : ((x.2.1 : Int) != (x.2.1 : Int)) = false := by simp
            have hj1 : (j : Int) + 1 - 1 = (j : Int) := by omega
            have HX := hide (And.intro hn (And.intro hKD hBX))
            have HJI := hide hjI
            clear hjd hcr hcp hsu hsn h0 h1 h2 h3 hBw hn hBX hget hpx hBn bn bs hKs hKD y0 y1 hbr hbp hjI
            gi_wp2
            obtain ⟨hn, hKD, hBX⟩ := HX.out
            refine ⟨Kp.set _ (fun h => by omega) (by omega), ⟨?_, ((grownBy_setCell' X X0.heap.size _).block DA (Array.getElem?_eq_some_iff.1 hKD).1 (fun e => by have := Option.some.inj e; omega)).trans hKD⟩, hBX.setCell (p := ⟨X0.heap.size, 0, none⟩) (Nat.le_refl _) _⟩
            have := hn.set (.int .i64 (j : Int))
            have e9 : ((NC : Int) - ((pre ++ [x]).length : Int)) = (j : Int) := by have := HJI.out; simp; omega
            rw [e9]
            exact this
          case hdone =>
            rintro DB XB hDB ⟨⟨hn, hKA⟩, hBX⟩ hKB
            rw [List.length_reverse, HNC.out, Int.sub_self] at hn
            clear bn hBn bs hKs
            obtain ⟨h0, h1, h2, h3, hsu, hsn, hBw⟩ := FX.out XB hBX
            have cn := hn.cell
            have hlA2 := (Array.getElem?_eq_some_iff.1 hKA).1
            have hlB := (Array.getElem?_eq_some_iff.1 hKB).1
            have HK := hide (And.intro hKB (And.intro hKA (And.intro hn hBX)))
            clear hKB hKA hn hBX h0 h1 h2 h3 hsu hsn hBw
            gi_wp2_with (refine ⟨trivial, ?_⟩; gi_at_call 18; refine (uwrong_in s _).mono ?_; rintro e w' ⟨rfl, rfl⟩)
            obtain ⟨hKB, hKA, hn, hBX⟩ := HK.out
            have hszXB := hBX.size
            have bn := hn.alloc (.cells #[.string s] 9)
            have bs := Boxed.new XB 9 (.string s)
            have hBn : Below X0.heap.size X0 (XB.alloc (.cells #[.string s] 9)) := hBX.alloc (by omega) _
            have hBal := (Below.refl _ XB).alloc (Nat.le_refl _) (.cells #[.string s] 9)
            have hKAs : (XB.alloc (.cells #[.string s] 9)).heap[DA]? = some (.deferred (some [])) := (hBal.block DA hlA2).trans hKA
            have hKBs : (XB.alloc (.cells #[.string s] 9)).heap[DB]? = some (.deferred (some [])) := (hBal.block DB hlB).trans hKB
            have hszn3 : (XB.alloc (.cells #[.string s] 9)).heap.size = XB.heap.size + 1 := by simp
            generalize XB.alloc (.cells #[.string s] 9) = WC at *
            clear hKA hKB hn hBX HK cn hBal
            apply rangeX (gf := 31) (lb := #[.pointer (some ⟨XB.heap.size, 0, none⟩)]) (encs := encW) rfl (enters_of Try.func31 (by kernel_rfl) rfl)
              (uwrong_x (fun _ => False) (fun k => k = XB.heap.size) XB.heap.size s WC (by omega) rfl (by omega) bs.cell) (Below.refl _ _) (fun k h => by omega) (fun _ => rfl)
              (fun pre Y => (∃ κ : Nat, (κ ≤ NC ∧ ((Cs 0 (bl s)).take κ).filter isW = pre) ∧ Boxed Y X0.heap.size 3 (.int .i64 (κ : Int))) ∧ ((Y.heap[DA]? = some (.deferred (some [])) ∧ Y.heap[DB]? = some (.deferred (some []))) ∧ Below X0.heap.size X0 Y))
              (fun c pre Y => False)
              (Stab.and (Stab.ex fun κ => Stab.and (Stab.pure (fun pre => κ ≤ NC ∧ ((Cs 0 (bl s)).take κ).filter isW = pre)) (Stab.box _ _ (by omega))) (Stab.and (Stab.and (Stab.at _ (by omega)) (Stab.at _ (by omega))) (Stab.below (by omega) (Nat.le_refl _))))
              (fun c => Stab.pure (fun _ => False))
              ⟨⟨0, ⟨by omega, rfl⟩, bn⟩, ⟨hKAs, hKBs⟩, hBn⟩
            case hassign =>
              intro l' x X K hK
              simp only [encW]
              gi_wp2
              exact hK
            case hstop => rintro D c pre X hD hpre h; exact h.elim
            case hbody =>
              rintro l' pre x X ⟨⟨κ, ⟨hκ, hfil⟩, hn⟩, ⟨hKA, hKB⟩, hBX⟩ hpx
              have HPX := hide hpx
              have HX := hide (And.intro hn (And.intro hKA (And.intro hKB hBX)))
              have HFIL := hide (And.intro hκ hfil)
              clear hn hKA hKB hBX hpx hfil bn bs hBn hKAs hKBs hκ
              gi_wp2
              gi_loopw [] (fun wr => ∃ k : Nat, (k ≤ NC ∧ ((Cs 0 (bl s)).take k).filter isW = pre) ∧ Boxed wr X0.heap.size 3 (.int .i64 (k : Int)) ∧ (wr.heap[DA]? = some (.deferred (some [])) ∧ wr.heap[DB]? = some (.deferred (some []))) ∧ Below X0.heap.size X0 wr ∧ Kp (fun _ => False) (fun k => k = XB.heap.size) WC.heap.size X wr) (fun wr => NC - (intOf ((wr.cell? ⟨X0.heap.size, 0, none⟩).getD undef)).toNat)
              case atStart =>
                obtain ⟨hn, hKA, hKB, hBX⟩ := HX.out
                exact ⟨κ, HFIL.out, hn, ⟨hKA, hKB⟩, hBX, Kp.refl _ _ _ _⟩
              case round =>
                obtain ⟨k, ⟨hk, hfil⟩, hn, ⟨hKA, hKB⟩, hBr, hKp⟩ := hrel
                by_cases hlt : k < NC
                · obtain ⟨⟨ea, er, ew⟩, he⟩ : ∃ e, (Cs 0 (bl s))[k]? = some e := ⟨_, List.getElem?_eq_getElem (by rw [HNC.out]; exact hlt)⟩
                  obtain ⟨h0, h1, h2, h3, hsu, hsn, hBw⟩ := FX.out wr hBr
                  obtain ⟨br, or, rfl, hcr⟩ := hsu.get (k := k) (by rw [HZL.out]; exact hlt)
                  obtain ⟨bp, op, ebp, hcp⟩ := hsn.get (k := k) (by rw [hPl]; omega)
                  cases ebp
                  have y0 := hcp _ _ (PLi_here 0 _ _ _ he)
                  have y2 := hcp _ _ (PLi_next _ 0 _ _ he)
                  have y1 := hcr _ _ (runesZ_get he)
                  simp only [Nat.zero_add] at y0 y2
                  push_cast at y2
                  have cn := hn.cell
                  have fn' := hn.frozen
                  have d1 := h1.cell
                  have d2 := h2.cell
                  have d3 := h3.cell
                  have hS0 : wr.drew.cell? ⟨X0.heap.size, 0, none⟩ = some (.int .i64 (k : Int)) ∧ wr.drew.cell? ⟨w1.heap.size, 0, none⟩ = some (.int .i64 (NC : Int)) ∧ wr.drew.cell? ⟨w1.heap.size + 1, 0, none⟩ = some (.slice (some ⟨br, or, none⟩) NC c1) ∧ wr.drew.cell? ⟨w1.heap.size + 2, 0, none⟩ = some (.slice (some ⟨gv2, 0, none⟩) (NC + 1) gc2) ∧ wr.drew.cell? ⟨br, or + k, none⟩ = some (.int .i32 (er : Int)) ∧ wr.drew.cell? ⟨gv2, k, none⟩ = some (.int .i64 (ea : Int)) ∧ wr.drew.cell? ⟨gv2, k + 1, none⟩ = some (.int .i64 ((ea : Int) + (ew : Int))) := ⟨cn, d1, d2, d3, y1, y0, y2⟩
                  have hltI : (k : Int) < (NC : Int) := by omega
                  have hltJ : (k : Int) + 1 < (NC : Int) + 1 := by omega
                  have hltJ2 : (k : Int) < (NC : Int) + 1 := by omega
                  have hsub : (ea : Int) + (ew : Int) - (ea : Int) = (ew : Int) := by omega
                  have hwb := (Cs_mem (bl s) 0 _ (List.mem_of_getElem? he))
                  have hewI : (ew : Int) ≤ 4 := by have := hwb.2.2.2.1; simp only at this; omega
                  have hwk : IntKind.i64.wrap ((k : Int) + 1) = (k : Int) + 1 := by rw [IntKind.wrap_i64]; omega
                  have hwe : IntKind.i64.wrap (ew : Int) = (ew : Int) := by rw [IntKind.wrap_i64]; omega
                  have HH := hide (And.intro hn (And.intro (And.intro hKA hKB) (And.intro hBr hKp)))
                  have HE := hide he
                  have HFI := hide hfil
                  clear hn hKA hKB hBr hKp hfil he hcp hcr hsu hsn h0 h1 h2 h3 hBw hwb d1 d2 d3
                  by_cases hr0 : er = 65533
                  · have hq1 : ((er : Int) != 65533) = false := by simp [hr0]
                    by_cases hw0 : ew = 1
                    · have hq2 : ((ew : Int) != 1) = false := by simp [hw0]
                      have hiw := isW_yes (e := (ea, er, ew)) hr0 hw0
                      have hx := wr_same HFI.out HE.out hiw HPX.out
                      have hxe : (x.1 : Int) = (ea : Int) := by rw [hx]
                      have hq3 : ((ea : Int) != (x.1 : Int)) = false := by rw [hxe]; simp
                      have HFX := hide (show ((Cs 0 (bl s)).take (k + 1)).filter isW = pre ++ [x] by rw [hx]; exact wr_hit HFI.out HE.out hiw)
                      clear hr0 hw0 hiw hx hxe
                      gi_wp2_with (fail)
                      refine Code.wpIn_mono noPO_le ?_
                      refine region_heldR (fun W => W.cell? ⟨X0.heap.size, 0, none⟩ = some (.int .i64 (k : Int)) ∧ W.cell? ⟨w1.heap.size, 0, none⟩ = some (.int .i64 (NC : Int)) ∧ W.cell? ⟨w1.heap.size + 1, 0, none⟩ = some (.slice (some ⟨br, or, none⟩) NC c1) ∧ W.cell? ⟨w1.heap.size + 2, 0, none⟩ = some (.slice (some ⟨gv2, 0, none⟩) (NC + 1) gc2) ∧ W.cell? ⟨br, or + k, none⟩ = some (.int .i32 (er : Int)) ∧ W.cell? ⟨gv2, k, none⟩ = some (.int .i64 (ea : Int)) ∧ W.cell? ⟨gv2, k + 1, none⟩ = some (.int .i64 ((ea : Int) + (ew : Int)))) (by kernel_rfl) (by kernel_rfl) (fun a w h => h) hS0 (fun hS => ?_)
                      clear hS0
                      refine wpAnyH_take (i := 0) (v := .int .i64 (k : Int)) rfl (by kernel_rfl) (by kernel_rfl) (by kernel_rfl) (fun _ _ _ h => h) (Or.inl ⟨by kernel_rfl, fun w' hw => by (obtain ⟨z0, z1, z2, z3, z4, z5, z6⟩ := hw; go_simp)⟩) hS ?_
                      refine wpAnyH_take (i := 1) (v := .int .i64 (NC : Int)) rfl (by kernel_rfl) (by kernel_rfl) (by kernel_rfl) (fun _ _ _ h => h) (Or.inl ⟨by kernel_rfl, fun w' hw => by (obtain ⟨z0, z1, z2, z3, z4, z5, z6⟩ := hw; go_simp)⟩) hS ?_
                      refine wpAnyH_take (i := 2) (v := .bool true) rfl (by kernel_rfl) (by kernel_rfl) (by kernel_rfl) (fun _ _ _ h => h) (Or.inl ⟨by kernel_rfl, fun w' hw => by (obtain ⟨z0, z1, z2, z3, z4, z5, z6⟩ := hw; go_simp)⟩) hS ?_
                      refine wpAnyH_take (i := 3) (v := .bool true) rfl (by kernel_rfl) (by kernel_rfl) (by kernel_rfl) (fun _ _ _ h => h) (Or.inl ⟨by kernel_rfl, fun w' hw => by (obtain ⟨z0, z1, z2, z3, z4, z5, z6⟩ := hw; go_simp)⟩) hS ?_
                      refine wpAnyH_take (i := 4) (v := .slice (some ⟨br, or, none⟩) NC c1) rfl (by kernel_rfl) (by kernel_rfl) (by kernel_rfl) (fun _ _ _ h => h) (Or.inl ⟨by kernel_rfl, fun w' hw => by (obtain ⟨z0, z1, z2, z3, z4, z5, z6⟩ := hw; go_simp)⟩) hS ?_
                      refine wpAnyH_take (i := 5) (v := .int .i64 (k : Int)) rfl (by kernel_rfl) (by kernel_rfl) (by kernel_rfl) (fun _ _ _ h => h) (Or.inl ⟨by kernel_rfl, fun w' hw => by (obtain ⟨z0, z1, z2, z3, z4, z5, z6⟩ := hw; go_simp)⟩) hS ?_
                      refine wpAnyH_take (i := 6) (v := .pointer (some ⟨br, or + k, none⟩)) rfl (by kernel_rfl) (by kernel_rfl) (by kernel_rfl) (fun _ _ _ h => h) (Or.inl ⟨by kernel_rfl, fun w' hw => by (obtain ⟨z0, z1, z2, z3, z4, z5, z6⟩ := hw; go_simp)⟩) hS ?_
                      refine wpAnyH_take (i := 7) (v := .int .i32 (er : Int)) rfl (by kernel_rfl) (by kernel_rfl) (by kernel_rfl) (fun _ _ _ h => h) (Or.inl ⟨by kernel_rfl, fun w' hw => by (obtain ⟨z0, z1, z2, z3, z4, z5, z6⟩ := hw; go_simp)⟩) hS ?_
                      refine wpAnyH_take (i := 8) (v := .bool false) rfl (by kernel_rfl) (by kernel_rfl) (by kernel_rfl) (fun _ _ _ h => h) (Or.inl ⟨by kernel_rfl, fun w' hw => by (obtain ⟨z0, z1, z2, z3, z4, z5, z6⟩ := hw; go_simp)⟩) hS ?_
                      refine wpAnyH_take (i := 9) (v := .bool false) rfl (by kernel_rfl) (by kernel_rfl) (by kernel_rfl) (fun _ _ _ h => h) (Or.inl ⟨by kernel_rfl, fun w' hw => by (obtain ⟨z0, z1, z2, z3, z4, z5, z6⟩ := hw; go_simp)⟩) hS ?_
                      simp only [Act.put, List.getElem_toArray, List.getElem_cons_zero, List.getElem_cons_succ, List.setIfInBounds_toArray, List.set_cons_zero, List.set_cons_succ]
                      refine wpAnyH_take (i := 10) (v := .slice (some ⟨gv2, 0, none⟩) (NC + 1) gc2) rfl (by kernel_rfl) (by kernel_rfl) (by kernel_rfl) (fun _ _ _ h => h) (Or.inl ⟨by kernel_rfl, fun w' hw => by (obtain ⟨z0, z1, z2, z3, z4, z5, z6⟩ := hw; go_simp)⟩) hS ?_
                      refine wpAnyH_take (i := 11) (v := .int .i64 (k : Int)) rfl (by kernel_rfl) (by kernel_rfl) (by kernel_rfl) (fun _ _ _ h => h) (Or.inl ⟨by kernel_rfl, fun w' hw => by (obtain ⟨z0, z1, z2, z3, z4, z5, z6⟩ := hw; go_simp)⟩) hS ?_
                      refine wpAnyH_take (i := 12) (v := .int .i64 ((k : Int) + 1)) rfl (by kernel_rfl) (by kernel_rfl) (by kernel_rfl) (fun _ _ _ h => h) (Or.inl ⟨by kernel_rfl, fun w' hw => by (obtain ⟨z0, z1, z2, z3, z4, z5, z6⟩ := hw; go_simp)⟩) hS ?_
                      refine wpAnyH_take (i := 13) (v := .pointer (some ⟨gv2, k + 1, none⟩)) rfl (by kernel_rfl) (by kernel_rfl) (by kernel_rfl) (fun _ _ _ h => h) (Or.inl ⟨by kernel_rfl, fun w' hw => by (obtain ⟨z0, z1, z2, z3, z4, z5, z6⟩ := hw; go_simp <;> exact fun h => absurd h (by omega))⟩) hS ?_
                      refine wpAnyH_take (i := 14) (v := .int .i64 ((ea : Int) + (ew : Int))) rfl (by kernel_rfl) (by kernel_rfl) (by kernel_rfl) (fun _ _ _ h => h) (Or.inl ⟨by kernel_rfl, fun w' hw => by (obtain ⟨z0, z1, z2, z3, z4, z5, z6⟩ := hw; go_simp)⟩) hS ?_
                      simp only [Act.put, List.getElem_toArray, List.getElem_cons_zero, List.getElem_cons_succ, List.setIfInBounds_toArray, List.set_cons_zero, List.set_cons_succ]
                      refine wpAnyH_take (i := 15) (v := .slice (some ⟨gv2, 0, none⟩) (NC + 1) gc2) rfl (by kernel_rfl) (by kernel_rfl) (by kernel_rfl) (fun _ _ _ h => h) (Or.inl ⟨by kernel_rfl, fun w' hw => by (obtain ⟨z0, z1, z2, z3, z4, z5, z6⟩ := hw; go_simp)⟩) hS ?_
                      refine wpAnyH_take (i := 16) (v := .int .i64 (k : Int)) rfl (by kernel_rfl) (by kernel_rfl) (by kernel_rfl) (fun _ _ _ h => h) (Or.inl ⟨by kernel_rfl, fun w' hw => by (obtain ⟨z0, z1, z2, z3, z4, z5, z6⟩ := hw; go_simp)⟩) hS ?_
                      refine wpAnyH_take (i := 17) (v := .pointer (some ⟨gv2, k, none⟩)) rfl (by kernel_rfl) (by kernel_rfl) (by kernel_rfl) (fun _ _ _ h => h) (Or.inl ⟨by kernel_rfl, fun w' hw => by (obtain ⟨z0, z1, z2, z3, z4, z5, z6⟩ := hw; go_simp)⟩) hS ?_
                      refine wpAnyH_take (i := 18) (v := .int .i64 (ea : Int)) rfl (by kernel_rfl) (by kernel_rfl) (by kernel_rfl) (fun _ _ _ h => h) (Or.inl ⟨by kernel_rfl, fun w' hw => by (obtain ⟨z0, z1, z2, z3, z4, z5, z6⟩ := hw; go_simp)⟩) hS ?_
                      refine wpAnyH_take (i := 19) (v := .int .i64 (ew : Int)) rfl (by kernel_rfl) (by kernel_rfl) (by kernel_rfl) (fun _ _ _ h => h) (Or.inl ⟨by kernel_rfl, fun w' hw => by (obtain ⟨z0, z1, z2, z3, z4, z5, z6⟩ := hw; go_simp)⟩) hS ?_
                      simp only [Act.put, List.getElem_toArray, List.getElem_cons_zero, List.getElem_cons_succ, List.setIfInBounds_toArray, List.set_cons_zero, List.set_cons_succ]
                      refine wpAnyH_take (i := 20) (v := .bool false) rfl (by kernel_rfl) (by kernel_rfl) (by kernel_rfl) (fun _ _ _ h => h) (Or.inl ⟨by kernel_rfl, fun w' hw => by (obtain ⟨z0, z1, z2, z3, z4, z5, z6⟩ := hw; go_simp)⟩) hS ?_
                      refine wpAnyH_take (i := 21) (v := .bool false) rfl (by kernel_rfl) (by kernel_rfl) (by kernel_rfl) (fun _ _ _ h => h) (Or.inl ⟨by kernel_rfl, fun w' hw => by (obtain ⟨z0, z1, z2, z3, z4, z5, z6⟩ := hw; go_simp)⟩) hS ?_
                      refine wpAnyH_take (i := 22) (v := .bool false) rfl (by kernel_rfl) (by kernel_rfl) (by kernel_rfl) (fun _ _ _ h => h) (Or.inl ⟨by kernel_rfl, fun w' hw => by (obtain ⟨z0, z1, z2, z3, z4, z5, z6⟩ := hw; go_simp)⟩) hS ?_
                      refine wpAnyH_done (by kernel_rfl) (noPO_normal ?_) _
                      try simp only [Act.put, List.getElem_toArray, List.getElem_cons_zero, List.getElem_cons_succ, List.setIfInBounds_toArray, List.set_cons_zero, List.set_cons_succ]
                      have g1 : wr.drew.cell? ⟨w1.heap.size, 0, none⟩ = some (.int .i64 (NC : Int)) := hS.2.1
                      have g0 : wr.drew.cell? ⟨X0.heap.size, 0, none⟩ = some (.int .i64 (k : Int)) := hS.1
                      have g3 := hS.2.2.2.1
                      have g5 := hS.2.2.2.2.2.1
                      have gf : wr.drew.frozen? ⟨X0.heap.size, 0, none⟩ = false := fn'
                      clear hS
                      gi_wp2
                      obtain ⟨hn, ⟨hKA, hKB⟩, hBr, hKp⟩ := HH.out
                      have hl1 := (Array.getElem?_eq_some_iff.1 hKA).1
                      have hl2 := (Array.getElem?_eq_some_iff.1 hKB).1
                      have e1 : (((k + 1 : Nat) : Int)) = (k : Int) + 1 := by omega
                      refine ⟨(hKp.trans (Kp.set (.int .i64 ((k : Int) + 1)) (fun h => by omega) (by omega))).trans (Kp.of_below ((Below.refl _ _).drew)), ⟨k + 1, ⟨by omega, HFX.out⟩, by rw [e1]; exact hn.set (.int .i64 ((k : Int) + 1))⟩, ⟨((grownBy_setCell' wr X0.heap.size (.int .i64 ((k : Int) + 1))).block DA hl1 (fun e => by have := Option.some.inj e; omega)).trans hKA, ((grownBy_setCell' wr X0.heap.size (.int .i64 ((k : Int) + 1))).block DB hl2 (fun e => by have := Option.some.inj e; omega)).trans hKB⟩, (hBr.setCell (p := ⟨X0.heap.size, 0, none⟩) (Nat.le_refl _) (.int .i64 ((k : Int) + 1))).drew⟩
                    · have hq2 : ((ew : Int) != 1) = true := by simp; omega
                      have hi := isW_no2 (e := (ea, er, ew)) hw0
                      clear hr0
                      gi_wp2_with (fail)
                      refine Code.wpIn_mono noPO_le ?_
                      refine region_heldR (fun W => W.cell? ⟨X0.heap.size, 0, none⟩ = some (.int .i64 (k : Int)) ∧ W.cell? ⟨w1.heap.size, 0, none⟩ = some (.int .i64 (NC : Int)) ∧ W.cell? ⟨w1.heap.size + 1, 0, none⟩ = some (.slice (some ⟨br, or, none⟩) NC c1) ∧ W.cell? ⟨w1.heap.size + 2, 0, none⟩ = some (.slice (some ⟨gv2, 0, none⟩) (NC + 1) gc2) ∧ W.cell? ⟨br, or + k, none⟩ = some (.int .i32 (er : Int)) ∧ W.cell? ⟨gv2, k, none⟩ = some (.int .i64 (ea : Int)) ∧ W.cell? ⟨gv2, k + 1, none⟩ = some (.int .i64 ((ea : Int) + (ew : Int)))) (by kernel_rfl) (by kernel_rfl) (fun a w h => h) hS0 (fun hS => ?_)
                      clear hS0
                      refine wpAnyH_take (i := 0) (v := .int .i64 (k : Int)) rfl (by kernel_rfl) (by kernel_rfl) (by kernel_rfl) (fun _ _ _ h => h) (Or.inl ⟨by kernel_rfl, fun w' hw => by (obtain ⟨z0, z1, z2, z3, z4, z5, z6⟩ := hw; go_simp)⟩) hS ?_
                      refine wpAnyH_take (i := 1) (v := .int .i64 (NC : Int)) rfl (by kernel_rfl) (by kernel_rfl) (by kernel_rfl) (fun _ _ _ h => h) (Or.inl ⟨by kernel_rfl, fun w' hw => by (obtain ⟨z0, z1, z2, z3, z4, z5, z6⟩ := hw; go_simp)⟩) hS ?_
                      refine wpAnyH_take (i := 2) (v := .bool true) rfl (by kernel_rfl) (by kernel_rfl) (by kernel_rfl) (fun _ _ _ h => h) (Or.inl ⟨by kernel_rfl, fun w' hw => by (obtain ⟨z0, z1, z2, z3, z4, z5, z6⟩ := hw; go_simp)⟩) hS ?_
                      refine wpAnyH_take (i := 3) (v := .bool true) rfl (by kernel_rfl) (by kernel_rfl) (by kernel_rfl) (fun _ _ _ h => h) (Or.inl ⟨by kernel_rfl, fun w' hw => by (obtain ⟨z0, z1, z2, z3, z4, z5, z6⟩ := hw; go_simp)⟩) hS ?_
                      refine wpAnyH_take (i := 4) (v := .slice (some ⟨br, or, none⟩) NC c1) rfl (by kernel_rfl) (by kernel_rfl) (by kernel_rfl) (fun _ _ _ h => h) (Or.inl ⟨by kernel_rfl, fun w' hw => by (obtain ⟨z0, z1, z2, z3, z4, z5, z6⟩ := hw; go_simp)⟩) hS ?_
                      refine wpAnyH_take (i := 5) (v := .int .i64 (k : Int)) rfl (by kernel_rfl) (by kernel_rfl) (by kernel_rfl) (fun _ _ _ h => h) (Or.inl ⟨by kernel_rfl, fun w' hw => by (obtain ⟨z0, z1, z2, z3, z4, z5, z6⟩ := hw; go_simp)⟩) hS ?_
                      refine wpAnyH_take (i := 6) (v := .pointer (some ⟨br, or + k, none⟩)) rfl (by kernel_rfl) (by kernel_rfl) (by kernel_rfl) (fun _ _ _ h => h) (Or.inl ⟨by kernel_rfl, fun w' hw => by (obtain ⟨z0, z1, z2, z3, z4, z5, z6⟩ := hw; go_simp)⟩) hS ?_
                      refine wpAnyH_take (i := 7) (v := .int .i32 (er : Int)) rfl (by kernel_rfl) (by kernel_rfl) (by kernel_rfl) (fun _ _ _ h => h) (Or.inl ⟨by kernel_rfl, fun w' hw => by (obtain ⟨z0, z1, z2, z3, z4, z5, z6⟩ := hw; go_simp)⟩) hS ?_
                      refine wpAnyH_take (i := 8) (v := .bool false) rfl (by kernel_rfl) (by kernel_rfl) (by kernel_rfl) (fun _ _ _ h => h) (Or.inl ⟨by kernel_rfl, fun w' hw => by (obtain ⟨z0, z1, z2, z3, z4, z5, z6⟩ := hw; go_simp)⟩) hS ?_
                      refine wpAnyH_take (i := 9) (v := .bool false) rfl (by kernel_rfl) (by kernel_rfl) (by kernel_rfl) (fun _ _ _ h => h) (Or.inl ⟨by kernel_rfl, fun w' hw => by (obtain ⟨z0, z1, z2, z3, z4, z5, z6⟩ := hw; go_simp)⟩) hS ?_
                      simp only [Act.put, List.getElem_toArray, List.getElem_cons_zero, List.getElem_cons_succ, List.setIfInBounds_toArray, List.set_cons_zero, List.set_cons_succ]
                      refine wpAnyH_take (i := 10) (v := .slice (some ⟨gv2, 0, none⟩) (NC + 1) gc2) rfl (by kernel_rfl) (by kernel_rfl) (by kernel_rfl) (fun _ _ _ h => h) (Or.inl ⟨by kernel_rfl, fun w' hw => by (obtain ⟨z0, z1, z2, z3, z4, z5, z6⟩ := hw; go_simp)⟩) hS ?_
                      refine wpAnyH_take (i := 11) (v := .int .i64 (k : Int)) rfl (by kernel_rfl) (by kernel_rfl) (by kernel_rfl) (fun _ _ _ h => h) (Or.inl ⟨by kernel_rfl, fun w' hw => by (obtain ⟨z0, z1, z2, z3, z4, z5, z6⟩ := hw; go_simp)⟩) hS ?_
                      refine wpAnyH_take (i := 12) (v := .int .i64 ((k : Int) + 1)) rfl (by kernel_rfl) (by kernel_rfl) (by kernel_rfl) (fun _ _ _ h => h) (Or.inl ⟨by kernel_rfl, fun w' hw => by (obtain ⟨z0, z1, z2, z3, z4, z5, z6⟩ := hw; go_simp)⟩) hS ?_
                      refine wpAnyH_take (i := 13) (v := .pointer (some ⟨gv2, k + 1, none⟩)) rfl (by kernel_rfl) (by kernel_rfl) (by kernel_rfl) (fun _ _ _ h => h) (Or.inl ⟨by kernel_rfl, fun w' hw => by (obtain ⟨z0, z1, z2, z3, z4, z5, z6⟩ := hw; go_simp <;> exact fun h => absurd h (by omega))⟩) hS ?_
                      refine wpAnyH_take (i := 14) (v := .int .i64 ((ea : Int) + (ew : Int))) rfl (by kernel_rfl) (by kernel_rfl) (by kernel_rfl) (fun _ _ _ h => h) (Or.inl ⟨by kernel_rfl, fun w' hw => by (obtain ⟨z0, z1, z2, z3, z4, z5, z6⟩ := hw; go_simp)⟩) hS ?_
                      simp only [Act.put, List.getElem_toArray, List.getElem_cons_zero, List.getElem_cons_succ, List.setIfInBounds_toArray, List.set_cons_zero, List.set_cons_succ]
                      refine wpAnyH_take (i := 15) (v := .slice (some ⟨gv2, 0, none⟩) (NC + 1) gc2) rfl (by kernel_rfl) (by kernel_rfl) (by kernel_rfl) (fun _ _ _ h => h) (Or.inl ⟨by kernel_rfl, fun w' hw => by (obtain ⟨z0, z1, z2, z3, z4, z5, z6⟩ := hw; go_simp)⟩) hS ?_
                      refine wpAnyH_take (i := 16) (v := .int .i64 (k : Int)) rfl (by kernel_rfl) (by kernel_rfl) (by kernel_rfl) (fun _ _ _ h => h) (Or.inl ⟨by kernel_rfl, fun w' hw => by (obtain ⟨z0, z1, z2, z3, z4, z5, z6⟩ := hw; go_simp)⟩) hS ?_
                      refine wpAnyH_take (i := 17) (v := .pointer (some ⟨gv2, k, none⟩)) rfl (by kernel_rfl) (by kernel_rfl) (by kernel_rfl) (fun _ _ _ h => h) (Or.inl ⟨by kernel_rfl, fun w' hw => by (obtain ⟨z0, z1, z2, z3, z4, z5, z6⟩ := hw; go_simp)⟩) hS ?_
                      refine wpAnyH_take (i := 18) (v := .int .i64 (ea : Int)) rfl (by kernel_rfl) (by kernel_rfl) (by kernel_rfl) (fun _ _ _ h => h) (Or.inl ⟨by kernel_rfl, fun w' hw => by (obtain ⟨z0, z1, z2, z3, z4, z5, z6⟩ := hw; go_simp)⟩) hS ?_
                      refine wpAnyH_take (i := 19) (v := .int .i64 (ew : Int)) rfl (by kernel_rfl) (by kernel_rfl) (by kernel_rfl) (fun _ _ _ h => h) (Or.inl ⟨by kernel_rfl, fun w' hw => by (obtain ⟨z0, z1, z2, z3, z4, z5, z6⟩ := hw; go_simp)⟩) hS ?_
                      simp only [Act.put, List.getElem_toArray, List.getElem_cons_zero, List.getElem_cons_succ, List.setIfInBounds_toArray, List.set_cons_zero, List.set_cons_succ]
                      refine wpAnyH_take (i := 20) (v := .bool true) rfl (by kernel_rfl) (by kernel_rfl) (by kernel_rfl) (fun _ _ _ h => h) (Or.inl ⟨by kernel_rfl, fun w' hw => by (obtain ⟨z0, z1, z2, z3, z4, z5, z6⟩ := hw; go_simp)⟩) hS ?_
                      refine wpAnyH_take (i := 21) (v := .bool true) rfl (by kernel_rfl) (by kernel_rfl) (by kernel_rfl) (fun _ _ _ h => h) (Or.inl ⟨by kernel_rfl, fun w' hw => by (obtain ⟨z0, z1, z2, z3, z4, z5, z6⟩ := hw; go_simp)⟩) hS ?_
                      refine wpAnyH_take (i := 22) (v := .bool true) rfl (by kernel_rfl) (by kernel_rfl) (by kernel_rfl) (fun _ _ _ h => h) (Or.inl ⟨by kernel_rfl, fun w' hw => by (obtain ⟨z0, z1, z2, z3, z4, z5, z6⟩ := hw; go_simp)⟩) hS ?_
                      refine wpAnyH_done (by kernel_rfl) (noPO_normal ?_) _
                      try simp only [Act.put, List.getElem_toArray, List.getElem_cons_zero, List.getElem_cons_succ, List.setIfInBounds_toArray, List.set_cons_zero, List.set_cons_succ]
                      gi_wp2
                      go_roundw
                      case rel =>
                        obtain ⟨hn, ⟨hKA, hKB⟩, hBr, hKp⟩ := HH.out
                        have hl1 := (Array.getElem?_eq_some_iff.1 hKA).1
                        have hl2 := (Array.getElem?_eq_some_iff.1 hKB).1
                        have e1 : (((k + 1 : Nat) : Int)) = (k : Int) + 1 := by omega
                        refine ⟨k + 1, ⟨by omega, wr_stay HFI.out HE.out hi⟩, by rw [e1]; exact hn.set (.int .i64 ((k : Int) + 1)), ⟨((grownBy_setCell' wr X0.heap.size (.int .i64 ((k : Int) + 1))).block DA hl1 (fun e => by have := Option.some.inj e; omega)).trans hKA, ((grownBy_setCell' wr X0.heap.size (.int .i64 ((k : Int) + 1))).block DB hl2 (fun e => by have := Option.some.inj e; omega)).trans hKB⟩, (hBr.setCell (p := ⟨X0.heap.size, 0, none⟩) (Nat.le_refl _) (.int .i64 ((k : Int) + 1))).drew, (hKp.trans (Kp.set (.int .i64 ((k : Int) + 1)) (fun h => by omega) (by omega))).trans (Kp.of_below ((Below.refl _ _).drew))⟩
                      case measure =>
                        have e1 := ((HH.out.1).set (.int .i64 ((k : Int) + 1))).cell
                        have e2 := (HH.out.1).cell
                        have e1' : (wr.setCell ⟨X0.heap.size, 0, none⟩ (.int .i64 ((k : Int) + 1))).drew.cell? ⟨X0.heap.size, 0, none⟩ = some (.int .i64 ((k : Int) + 1)) := e1
                        rw [e1', e2]
                        simp [intOf]
                        omega
                  · have hq1 : ((er : Int) != 65533) = true := by simp; omega
                    have hi := isW_no1 (e := (ea, er, ew)) hr0
                    clear hr0
                    gi_wp2_with (fail)
                    refine Code.wpIn_mono noPO_le ?_
                    refine region_heldR (fun W => W.cell? ⟨X0.heap.size, 0, none⟩ = some (.int .i64 (k : Int)) ∧ W.cell? ⟨w1.heap.size, 0, none⟩ = some (.int .i64 (NC : Int)) ∧ W.cell? ⟨w1.heap.size + 1, 0, none⟩ = some (.slice (some ⟨br, or, none⟩) NC c1) ∧ W.cell? ⟨w1.heap.size + 2, 0, none⟩ = some (.slice (some ⟨gv2, 0, none⟩) (NC + 1) gc2) ∧ W.cell? ⟨br, or + k, none⟩ = some (.int .i32 (er : Int)) ∧ W.cell? ⟨gv2, k, none⟩ = some (.int .i64 (ea : Int)) ∧ W.cell? ⟨gv2, k + 1, none⟩ = some (.int .i64 ((ea : Int) + (ew : Int)))) (by kernel_rfl) (by kernel_rfl) (fun a w h => h) hS0 (fun hS => ?_)
                    clear hS0
                    refine wpAnyH_take (i := 0) (v := .int .i64 (k : Int)) rfl (by kernel_rfl) (by kernel_rfl) (by kernel_rfl) (fun _ _ _ h => h) (Or.inl ⟨by kernel_rfl, fun w' hw => by (obtain ⟨z0, z1, z2, z3, z4, z5, z6⟩ := hw; go_simp)⟩) hS ?_
                    refine wpAnyH_take (i := 1) (v := .int .i64 (NC : Int)) rfl (by kernel_rfl) (by kernel_rfl) (by kernel_rfl) (fun _ _ _ h => h) (Or.inl ⟨by kernel_rfl, fun w' hw => by (obtain ⟨z0, z1, z2, z3, z4, z5, z6⟩ := hw; go_simp)⟩) hS ?_
                    refine wpAnyH_take (i := 2) (v := .bool true) rfl (by kernel_rfl) (by kernel_rfl) (by kernel_rfl) (fun _ _ _ h => h) (Or.inl ⟨by kernel_rfl, fun w' hw => by (obtain ⟨z0, z1, z2, z3, z4, z5, z6⟩ := hw; go_simp)⟩) hS ?_
                    refine wpAnyH_take (i := 3) (v := .bool true) rfl (by kernel_rfl) (by kernel_rfl) (by kernel_rfl) (fun _ _ _ h => h) (Or.inl ⟨by kernel_rfl, fun w' hw => by (obtain ⟨z0, z1, z2, z3, z4, z5, z6⟩ := hw; go_simp)⟩) hS ?_
                    refine wpAnyH_take (i := 4) (v := .slice (some ⟨br, or, none⟩) NC c1) rfl (by kernel_rfl) (by kernel_rfl) (by kernel_rfl) (fun _ _ _ h => h) (Or.inl ⟨by kernel_rfl, fun w' hw => by (obtain ⟨z0, z1, z2, z3, z4, z5, z6⟩ := hw; go_simp)⟩) hS ?_
                    refine wpAnyH_take (i := 5) (v := .int .i64 (k : Int)) rfl (by kernel_rfl) (by kernel_rfl) (by kernel_rfl) (fun _ _ _ h => h) (Or.inl ⟨by kernel_rfl, fun w' hw => by (obtain ⟨z0, z1, z2, z3, z4, z5, z6⟩ := hw; go_simp)⟩) hS ?_
                    refine wpAnyH_take (i := 6) (v := .pointer (some ⟨br, or + k, none⟩)) rfl (by kernel_rfl) (by kernel_rfl) (by kernel_rfl) (fun _ _ _ h => h) (Or.inl ⟨by kernel_rfl, fun w' hw => by (obtain ⟨z0, z1, z2, z3, z4, z5, z6⟩ := hw; go_simp)⟩) hS ?_
                    refine wpAnyH_take (i := 7) (v := .int .i32 (er : Int)) rfl (by kernel_rfl) (by kernel_rfl) (by kernel_rfl) (fun _ _ _ h => h) (Or.inl ⟨by kernel_rfl, fun w' hw => by (obtain ⟨z0, z1, z2, z3, z4, z5, z6⟩ := hw; go_simp)⟩) hS ?_
                    refine wpAnyH_take (i := 8) (v := .bool true) rfl (by kernel_rfl) (by kernel_rfl) (by kernel_rfl) (fun _ _ _ h => h) (Or.inl ⟨by kernel_rfl, fun w' hw => by (obtain ⟨z0, z1, z2, z3, z4, z5, z6⟩ := hw; go_simp)⟩) hS ?_
                    refine wpAnyH_take (i := 9) (v := .bool true) rfl (by kernel_rfl) (by kernel_rfl) (by kernel_rfl) (fun _ _ _ h => h) (Or.inl ⟨by kernel_rfl, fun w' hw => by (obtain ⟨z0, z1, z2, z3, z4, z5, z6⟩ := hw; go_simp)⟩) hS ?_
                    refine wpAnyH_take (i := 10) (v := undef) rfl (by kernel_rfl) (by kernel_rfl) (by kernel_rfl) (fun _ _ _ h => h) (Or.inr ⟨by kernel_rfl, rfl⟩) hS ?_
                    refine wpAnyH_take (i := 11) (v := undef) rfl (by kernel_rfl) (by kernel_rfl) (by kernel_rfl) (fun _ _ _ h => h) (Or.inr ⟨by kernel_rfl, rfl⟩) hS ?_
                    refine wpAnyH_take (i := 12) (v := undef) rfl (by kernel_rfl) (by kernel_rfl) (by kernel_rfl) (fun _ _ _ h => h) (Or.inr ⟨by kernel_rfl, rfl⟩) hS ?_
                    refine wpAnyH_take (i := 13) (v := undef) rfl (by kernel_rfl) (by kernel_rfl) (by kernel_rfl) (fun _ _ _ h => h) (Or.inr ⟨by kernel_rfl, rfl⟩) hS ?_
                    refine wpAnyH_take (i := 14) (v := undef) rfl (by kernel_rfl) (by kernel_rfl) (by kernel_rfl) (fun _ _ _ h => h) (Or.inr ⟨by kernel_rfl, rfl⟩) hS ?_
                    refine wpAnyH_take (i := 15) (v := undef) rfl (by kernel_rfl) (by kernel_rfl) (by kernel_rfl) (fun _ _ _ h => h) (Or.inr ⟨by kernel_rfl, rfl⟩) hS ?_
                    refine wpAnyH_take (i := 16) (v := undef) rfl (by kernel_rfl) (by kernel_rfl) (by kernel_rfl) (fun _ _ _ h => h) (Or.inr ⟨by kernel_rfl, rfl⟩) hS ?_
                    refine wpAnyH_take (i := 17) (v := undef) rfl (by kernel_rfl) (by kernel_rfl) (by kernel_rfl) (fun _ _ _ h => h) (Or.inr ⟨by kernel_rfl, rfl⟩) hS ?_
                    refine wpAnyH_take (i := 18) (v := undef) rfl (by kernel_rfl) (by kernel_rfl) (by kernel_rfl) (fun _ _ _ h => h) (Or.inr ⟨by kernel_rfl, rfl⟩) hS ?_
                    refine wpAnyH_take (i := 19) (v := undef) rfl (by kernel_rfl) (by kernel_rfl) (by kernel_rfl) (fun _ _ _ h => h) (Or.inr ⟨by kernel_rfl, rfl⟩) hS ?_
                    refine wpAnyH_take (i := 20) (v := undef) rfl (by kernel_rfl) (by kernel_rfl) (by kernel_rfl) (fun _ _ _ h => h) (Or.inr ⟨by kernel_rfl, rfl⟩) hS ?_
                    refine wpAnyH_take (i := 21) (v := .bool true) rfl (by kernel_rfl) (by kernel_rfl) (by kernel_rfl) (fun _ _ _ h => h) (Or.inl ⟨by kernel_rfl, fun w' hw => by (obtain ⟨z0, z1, z2, z3, z4, z5, z6⟩ := hw; go_simp)⟩) hS ?_
                    refine wpAnyH_take (i := 22) (v := .bool true) rfl (by kernel_rfl) (by kernel_rfl) (by kernel_rfl) (fun _ _ _ h => h) (Or.inl ⟨by kernel_rfl, fun w' hw => by (obtain ⟨z0, z1, z2, z3, z4, z5, z6⟩ := hw; go_simp)⟩) hS ?_
                    refine wpAnyH_done (by kernel_rfl) (noPO_normal ?_) _
                    try simp only [Act.put, List.getElem_toArray, List.getElem_cons_zero, List.getElem_cons_succ, List.setIfInBounds_toArray, List.set_cons_zero, List.set_cons_succ]
                    gi_wp2
                    go_roundw
                    case rel =>
                      obtain ⟨hn, ⟨hKA, hKB⟩, hBr, hKp⟩ := HH.out
                      have hl1 := (Array.getElem?_eq_some_iff.1 hKA).1
                      have hl2 := (Array.getElem?_eq_some_iff.1 hKB).1
                      have e1 : (((k + 1 : Nat) : Int)) = (k : Int) + 1 := by omega
                      refine ⟨k + 1, ⟨by omega, wr_stay HFI.out HE.out hi⟩, by rw [e1]; exact hn.set (.int .i64 ((k : Int) + 1)), ⟨((grownBy_setCell' wr X0.heap.size (.int .i64 ((k : Int) + 1))).block DA hl1 (fun e => by have := Option.some.inj e; omega)).trans hKA, ((grownBy_setCell' wr X0.heap.size (.int .i64 ((k : Int) + 1))).block DB hl2 (fun e => by have := Option.some.inj e; omega)).trans hKB⟩, (hBr.setCell (p := ⟨X0.heap.size, 0, none⟩) (Nat.le_refl _) (.int .i64 ((k : Int) + 1))).drew, (hKp.trans (Kp.set (.int .i64 ((k : Int) + 1)) (fun h => by omega) (by omega))).trans (Kp.of_below ((Below.refl _ _).drew))⟩
                    case measure =>
                      have e1 := ((HH.out.1).set (.int .i64 ((k : Int) + 1))).cell
                      have e2 := (HH.out.1).cell
                      have e1' : (wr.setCell ⟨X0.heap.size, 0, none⟩ (.int .i64 ((k : Int) + 1))).drew.cell? ⟨X0.heap.size, 0, none⟩ = some (.int .i64 ((k : Int) + 1)) := e1
                      rw [e1', e2]
                      simp [intOf]
                      omega
                · exfalso
                  have hkN : k = NC := by omega
                  rw [hkN, ← HNC.out] at hfil
                  exact wr_end hfil HPX.out
            case hdone =>
              rintro DC XC hDC ⟨⟨κ, ⟨hκ, hfil⟩, hn⟩, ⟨hKA, hKB⟩, hBX⟩ hKC
              clear bn bs hBn hKAs hKBs
              have hlC := (Array.getElem?_eq_some_iff.1 hKC).1
              have HX := hide (And.intro hn (And.intro (And.intro hKA (And.intro hKB hKC)) hBX))
              have HFIL := hide (And.intro hκ hfil)
              clear hn hKA hKB hKC hBX hfil hκ
              gi_wp2
              gi_loopw [] (fun wr => ∃ k : Nat, (k ≤ NC ∧ ((Cs 0 (bl s)).take k).filter isW = Ws (bl s)) ∧ Boxed wr X0.heap.size 3 (.int .i64 (k : Int)) ∧ (wr.heap[DA]? = some (.deferred (some [])) ∧ wr.heap[DB]? = some (.deferred (some [])) ∧ wr.heap[DC]? = some (.deferred (some []))) ∧ Below X0.heap.size X0 wr) (fun wr => NC - (intOf ((wr.cell? ⟨X0.heap.size, 0, none⟩).getD undef)).toNat)
              case atStart =>
                obtain ⟨hn, hK3, hBX⟩ := HX.out
                exact ⟨κ, HFIL.out, hn, hK3, hBX⟩
              case round =>
                obtain ⟨k, ⟨hk, hfil⟩, hn, ⟨hKA, hKB, hKC⟩, hBr⟩ := hrel
                by_cases hlt : k < NC
                · obtain ⟨⟨ea, er, ew⟩, he⟩ : ∃ e, (Cs 0 (bl s))[k]? = some e := ⟨_, List.getElem?_eq_getElem (by rw [HNC.out]; exact hlt)⟩
                  obtain ⟨h0, h1, h2, h3, hsu, hsn, hBw⟩ := FX.out wr hBr
                  obtain ⟨br, or, rfl, hcr⟩ := hsu.get (k := k) (by rw [HZL.out]; exact hlt)
                  obtain ⟨bp, op, ebp, hcp⟩ := hsn.get (k := k) (by rw [hPl]; omega)
                  cases ebp
                  have y0 := hcp _ _ (PLi_here 0 _ _ _ he)
                  have y2 := hcp _ _ (PLi_next _ 0 _ _ he)
                  have y1 := hcr _ _ (runesZ_get he)
                  simp only [Nat.zero_add] at y0 y2
                  push_cast at y2
                  have cn := hn.cell
                  have fn' := hn.frozen
                  have d1 := h1.cell
                  have d2 := h2.cell
                  have d3 := h3.cell
                  have hS0 : wr.drew.cell? ⟨X0.heap.size, 0, none⟩ = some (.int .i64 (k : Int)) ∧ wr.drew.cell? ⟨w1.heap.size, 0, none⟩ = some (.int .i64 (NC : Int)) ∧ wr.drew.cell? ⟨w1.heap.size + 1, 0, none⟩ = some (.slice (some ⟨br, or, none⟩) NC c1) ∧ wr.drew.cell? ⟨w1.heap.size + 2, 0, none⟩ = some (.slice (some ⟨gv2, 0, none⟩) (NC + 1) gc2) ∧ wr.drew.cell? ⟨br, or + k, none⟩ = some (.int .i32 (er : Int)) ∧ wr.drew.cell? ⟨gv2, k, none⟩ = some (.int .i64 (ea : Int)) ∧ wr.drew.cell? ⟨gv2, k + 1, none⟩ = some (.int .i64 ((ea : Int) + (ew : Int))) := ⟨cn, d1, d2, d3, y1, y0, y2⟩
                  have hltI : (k : Int) < (NC : Int) := by omega
                  have hltJ : (k : Int) + 1 < (NC : Int) + 1 := by omega
                  have hltJ2 : (k : Int) < (NC : Int) + 1 := by omega
                  have hsub : (ea : Int) + (ew : Int) - (ea : Int) = (ew : Int) := by omega
                  have hwb := (Cs_mem (bl s) 0 _ (List.mem_of_getElem? he))
                  have hewI : (ew : Int) ≤ 4 := by have := hwb.2.2.2.1; simp only at this; omega
                  have hwk : IntKind.i64.wrap ((k : Int) + 1) = (k : Int) + 1 := by rw [IntKind.wrap_i64]; omega
                  have hwe : IntKind.i64.wrap (ew : Int) = (ew : Int) := by rw [IntKind.wrap_i64]; omega
                  have HH := hide (And.intro hn (And.intro (And.intro hKA (And.intro hKB hKC)) hBr))
                  have HE := hide he
                  have HFI := hide hfil
                  clear hn hKA hKB hKC hBr hfil he hcp hcr hsu hsn h0 h1 h2 h3 hBw hwb d1 d2 d3
                  by_cases hr0 : er = 65533
                  · have hq1 : ((er : Int) != 65533) = false := by simp [hr0]
                    by_cases hw0 : ew = 1
                    · exfalso
                      have h1 := wr_hit HFI.out HE.out (isW_yes (e := (ea, er, ew)) hr0 hw0)
                      have h2 : ((Cs 0 (bl s)).take (k + 1)).filter isW <+: Ws (bl s) := filt_pre isW (Cs 0 (bl s)) (k + 1)
                      rw [h1] at h2
                      have := h2.length_le
                      simp at this
                      omega
                    · have hq2 : ((ew : Int) != 1) = true := by simp; omega
                      have hi := isW_no2 (e := (ea, er, ew)) hw0
                      clear hr0
                      gi_wp2_with (fail)
                      refine wpIn_wide.2 (Go.wp_mono (Q := noPO _) ?_ noPO_le)
                      refine wp_region_held_drew (S := (fun W => W.cell? ⟨X0.heap.size, 0, none⟩ = some (.int .i64 (k : Int)) ∧ W.cell? ⟨w1.heap.size, 0, none⟩ = some (.int .i64 (NC : Int)) ∧ W.cell? ⟨w1.heap.size + 1, 0, none⟩ = some (.slice (some ⟨br, or, none⟩) NC c1) ∧ W.cell? ⟨w1.heap.size + 2, 0, none⟩ = some (.slice (some ⟨gv2, 0, none⟩) (NC + 1) gc2) ∧ W.cell? ⟨br, or + k, none⟩ = some (.int .i32 (er : Int)) ∧ W.cell? ⟨gv2, k, none⟩ = some (.int .i64 (ea : Int)) ∧ W.cell? ⟨gv2, k + 1, none⟩ = some (.int .i64 ((ea : Int) + (ew : Int))))) (by kernel_rfl) hS0 (fun hS => ?_)
                      clear hS0
                      refine wpAnyH_take (i := 0) (v := .int .i64 (k : Int)) rfl (by kernel_rfl) (by kernel_rfl) (by kernel_rfl) (fun _ _ _ h => h) (Or.inl ⟨by kernel_rfl, fun w' hw => by (obtain ⟨z0, z1, z2, z3, z4, z5, z6⟩ := hw; go_simp)⟩) hS ?_
                      refine wpAnyH_take (i := 1) (v := .int .i64 (NC : Int)) rfl (by kernel_rfl) (by kernel_rfl) (by kernel_rfl) (fun _ _ _ h => h) (Or.inl ⟨by kernel_rfl, fun w' hw => by (obtain ⟨z0, z1, z2, z3, z4, z5, z6⟩ := hw; go_simp)⟩) hS ?_
                      refine wpAnyH_take (i := 2) (v := .bool true) rfl (by kernel_rfl) (by kernel_rfl) (by kernel_rfl) (fun _ _ _ h => h) (Or.inl ⟨by kernel_rfl, fun w' hw => by (obtain ⟨z0, z1, z2, z3, z4, z5, z6⟩ := hw; go_simp)⟩) hS ?_
                      refine wpAnyH_take (i := 3) (v := .bool true) rfl (by kernel_rfl) (by kernel_rfl) (by kernel_rfl) (fun _ _ _ h => h) (Or.inl ⟨by kernel_rfl, fun w' hw => by (obtain ⟨z0, z1, z2, z3, z4, z5, z6⟩ := hw; go_simp)⟩) hS ?_
                      refine wpAnyH_take (i := 4) (v := .slice (some ⟨br, or, none⟩) NC c1) rfl (by kernel_rfl) (by kernel_rfl) (by kernel_rfl) (fun _ _ _ h => h) (Or.inl ⟨by kernel_rfl, fun w' hw => by (obtain ⟨z0, z1, z2, z3, z4, z5, z6⟩ := hw; go_simp)⟩) hS ?_
                      refine wpAnyH_take (i := 5) (v := .int .i64 (k : Int)) rfl (by kernel_rfl) (by kernel_rfl) (by kernel_rfl) (fun _ _ _ h => h) (Or.inl ⟨by kernel_rfl, fun w' hw => by (obtain ⟨z0, z1, z2, z3, z4, z5, z6⟩ := hw; go_simp)⟩) hS ?_
                      refine wpAnyH_take (i := 6) (v := .pointer (some ⟨br, or + k, none⟩)) rfl (by kernel_rfl) (by kernel_rfl) (by kernel_rfl) (fun _ _ _ h => h) (Or.inl ⟨by kernel_rfl, fun w' hw => by (obtain ⟨z0, z1, z2, z3, z4, z5, z6⟩ := hw; go_simp)⟩) hS ?_
                      refine wpAnyH_take (i := 7) (v := .int .i32 (er : Int)) rfl (by kernel_rfl) (by kernel_rfl) (by kernel_rfl) (fun _ _ _ h => h) (Or.inl ⟨by kernel_rfl, fun w' hw => by (obtain ⟨z0, z1, z2, z3, z4, z5, z6⟩ := hw; go_simp)⟩) hS ?_
                      refine wpAnyH_take (i := 8) (v := .bool false) rfl (by kernel_rfl) (by kernel_rfl) (by kernel_rfl) (fun _ _ _ h => h) (Or.inl ⟨by kernel_rfl, fun w' hw => by (obtain ⟨z0, z1, z2, z3, z4, z5, z6⟩ := hw; go_simp)⟩) hS ?_
                      refine wpAnyH_take (i := 9) (v := .bool false) rfl (by kernel_rfl) (by kernel_rfl) (by kernel_rfl) (fun _ _ _ h => h) (Or.inl ⟨by kernel_rfl, fun w' hw => by (obtain ⟨z0, z1, z2, z3, z4, z5, z6⟩ := hw; go_simp)⟩) hS ?_
                      simp only [Act.put, List.getElem_toArray, List.getElem_cons_zero, List.getElem_cons_succ, List.setIfInBounds_toArray, List.set_cons_zero, List.set_cons_succ]
                      refine wpAnyH_take (i := 10) (v := .slice (some ⟨gv2, 0, none⟩) (NC + 1) gc2) rfl (by kernel_rfl) (by kernel_rfl) (by kernel_rfl) (fun _ _ _ h => h) (Or.inl ⟨by kernel_rfl, fun w' hw => by (obtain ⟨z0, z1, z2, z3, z4, z5, z6⟩ := hw; go_simp)⟩) hS ?_
                      refine wpAnyH_take (i := 11) (v := .int .i64 (k : Int)) rfl (by kernel_rfl) (by kernel_rfl) (by kernel_rfl) (fun _ _ _ h => h) (Or.inl ⟨by kernel_rfl, fun w' hw => by (obtain ⟨z0, z1, z2, z3, z4, z5, z6⟩ := hw; go_simp)⟩) hS ?_
                      refine wpAnyH_take (i := 12) (v := .int .i64 ((k : Int) + 1)) rfl (by kernel_rfl) (by kernel_rfl) (by kernel_rfl) (fun _ _ _ h => h) (Or.inl ⟨by kernel_rfl, fun w' hw => by (obtain ⟨z0, z1, z2, z3, z4, z5, z6⟩ := hw; go_simp)⟩) hS ?_
                      refine wpAnyH_take (i := 13) (v := .pointer (some ⟨gv2, k + 1, none⟩)) rfl (by kernel_rfl) (by kernel_rfl) (by kernel_rfl) (fun _ _ _ h => h) (Or.inl ⟨by kernel_rfl, fun w' hw => by (obtain ⟨z0, z1, z2, z3, z4, z5, z6⟩ := hw; go_simp <;> exact fun h => absurd h (by omega))⟩) hS ?_
                      refine wpAnyH_take (i := 14) (v := .int .i64 ((ea : Int) + (ew : Int))) rfl (by kernel_rfl) (by kernel_rfl) (by kernel_rfl) (fun _ _ _ h => h) (Or.inl ⟨by kernel_rfl, fun w' hw => by (obtain ⟨z0, z1, z2, z3, z4, z5, z6⟩ := hw; go_simp)⟩) hS ?_
                      simp only [Act.put, List.getElem_toArray, List.getElem_cons_zero, List.getElem_cons_succ, List.setIfInBounds_toArray, List.set_cons_zero, List.set_cons_succ]
                      refine wpAnyH_take (i := 15) (v := .slice (some ⟨gv2, 0, none⟩) (NC + 1) gc2) rfl (by kernel_rfl) (by kernel_rfl) (by kernel_rfl) (fun _ _ _ h => h) (Or.inl ⟨by kernel_rfl, fun w' hw => by (obtain ⟨z0, z1, z2, z3, z4, z5, z6⟩ := hw; go_simp)⟩) hS ?_
                      refine wpAnyH_take (i := 16) (v := .int .i64 (k : Int)) rfl (by kernel_rfl) (by kernel_rfl) (by kernel_rfl) (fun _ _ _ h => h) (Or.inl ⟨by kernel_rfl, fun w' hw => by (obtain ⟨z0, z1, z2, z3, z4, z5, z6⟩ := hw; go_simp)⟩) hS ?_
                      refine wpAnyH_take (i := 17) (v := .pointer (some ⟨gv2, k, none⟩)) rfl (by kernel_rfl) (by kernel_rfl) (by kernel_rfl) (fun _ _ _ h => h) (Or.inl ⟨by kernel_rfl, fun w' hw => by (obtain ⟨z0, z1, z2, z3, z4, z5, z6⟩ := hw; go_simp)⟩) hS ?_
                      refine wpAnyH_take (i := 18) (v := .int .i64 (ea : Int)) rfl (by kernel_rfl) (by kernel_rfl) (by kernel_rfl) (fun _ _ _ h => h) (Or.inl ⟨by kernel_rfl, fun w' hw => by (obtain ⟨z0, z1, z2, z3, z4, z5, z6⟩ := hw; go_simp)⟩) hS ?_
                      refine wpAnyH_take (i := 19) (v := .int .i64 (ew : Int)) rfl (by kernel_rfl) (by kernel_rfl) (by kernel_rfl) (fun _ _ _ h => h) (Or.inl ⟨by kernel_rfl, fun w' hw => by (obtain ⟨z0, z1, z2, z3, z4, z5, z6⟩ := hw; go_simp)⟩) hS ?_
                      simp only [Act.put, List.getElem_toArray, List.getElem_cons_zero, List.getElem_cons_succ, List.setIfInBounds_toArray, List.set_cons_zero, List.set_cons_succ]
                      refine wpAnyH_take (i := 20) (v := .bool true) rfl (by kernel_rfl) (by kernel_rfl) (by kernel_rfl) (fun _ _ _ h => h) (Or.inl ⟨by kernel_rfl, fun w' hw => by (obtain ⟨z0, z1, z2, z3, z4, z5, z6⟩ := hw; go_simp)⟩) hS ?_
                      refine wpAnyH_take (i := 21) (v := .bool true) rfl (by kernel_rfl) (by kernel_rfl) (by kernel_rfl) (fun _ _ _ h => h) (Or.inl ⟨by kernel_rfl, fun w' hw => by (obtain ⟨z0, z1, z2, z3, z4, z5, z6⟩ := hw; go_simp)⟩) hS ?_
                      refine wpAnyH_take (i := 22) (v := .bool true) rfl (by kernel_rfl) (by kernel_rfl) (by kernel_rfl) (fun _ _ _ h => h) (Or.inl ⟨by kernel_rfl, fun w' hw => by (obtain ⟨z0, z1, z2, z3, z4, z5, z6⟩ := hw; go_simp)⟩) hS ?_
                      refine wpAnyH_done (by kernel_rfl) (noPO_normal ?_) _
                      try simp only [Act.put, List.getElem_toArray, List.getElem_cons_zero, List.getElem_cons_succ, List.setIfInBounds_toArray, List.set_cons_zero, List.set_cons_succ]
                      gi_wp2
                      go_roundw
                      case rel =>
                        obtain ⟨hn, ⟨hKA, hKB, hKC⟩, hBr⟩ := HH.out
                        have hl1 := (Array.getElem?_eq_some_iff.1 hKA).1
                        have hl2 := (Array.getElem?_eq_some_iff.1 hKB).1
                        have hl3 := (Array.getElem?_eq_some_iff.1 hKC).1
                        have e1 : (((k + 1 : Nat) : Int)) = (k : Int) + 1 := by omega
                        refine ⟨k + 1, ⟨by omega, wr_stay HFI.out HE.out hi⟩, by rw [e1]; exact hn.set (.int .i64 ((k : Int) + 1)), ⟨((grownBy_setCell' wr X0.heap.size (.int .i64 ((k : Int) + 1))).block DA hl1 (fun e => by have := Option.some.inj e; omega)).trans hKA, ((grownBy_setCell' wr X0.heap.size (.int .i64 ((k : Int) + 1))).block DB hl2 (fun e => by have := Option.some.inj e; omega)).trans hKB, ((grownBy_setCell' wr X0.heap.size (.int .i64 ((k : Int) + 1))).block DC hl3 (fun e => by have := Option.some.inj e; omega)).trans hKC⟩, (hBr.setCell (p := ⟨X0.heap.size, 0, none⟩) (Nat.le_refl _) (.int .i64 ((k : Int) + 1))).drew⟩
                      case measure =>
                        have e1 := ((HH.out.1).set (.int .i64 ((k : Int) + 1))).cell
                        have e2 := (HH.out.1).cell
                        have e1' : (wr.setCell ⟨X0.heap.size, 0, none⟩ (.int .i64 ((k : Int) + 1))).drew.cell? ⟨X0.heap.size, 0, none⟩ = some (.int .i64 ((k : Int) + 1)) := e1
                        rw [e1', e2]
                        simp [intOf]
                        omega
                  · have hq1 : ((er : Int) != 65533) = true := by simp; omega
                    have hi := isW_no1 (e := (ea, er, ew)) hr0
                    clear hr0
                    gi_wp2_with (fail)
                    refine wpIn_wide.2 (Go.wp_mono (Q := noPO _) ?_ noPO_le)
                    refine wp_region_held_drew (S := (fun W => W.cell? ⟨X0.heap.size, 0, none⟩ = some (.int .i64 (k : Int)) ∧ W.cell? ⟨w1.heap.size, 0, none⟩ = some (.int .i64 (NC : Int)) ∧ W.cell? ⟨w1.heap.size + 1, 0, none⟩ = some (.slice (some ⟨br, or, none⟩) NC c1) ∧ W.cell? ⟨w1.heap.size + 2, 0, none⟩ = some (.slice (some ⟨gv2, 0, none⟩) (NC + 1) gc2) ∧ W.cell? ⟨br, or + k, none⟩ = some (.int .i32 (er : Int)) ∧ W.cell? ⟨gv2, k, none⟩ = some (.int .i64 (ea : Int)) ∧ W.cell? ⟨gv2, k + 1, none⟩ = some (.int .i64 ((ea : Int) + (ew : Int))))) (by kernel_rfl) hS0 (fun hS => ?_)
                    clear hS0
                    refine wpAnyH_take (i := 0) (v := .int .i64 (k : Int)) rfl (by kernel_rfl) (by kernel_rfl) (by kernel_rfl) (fun _ _ _ h => h) (Or.inl ⟨by kernel_rfl, fun w' hw => by (obtain ⟨z0, z1, z2, z3, z4, z5, z6⟩ := hw; go_simp)⟩) hS ?_
                    refine wpAnyH_take (i := 1) (v := .int .i64 (NC : Int)) rfl (by kernel_rfl) (by kernel_rfl) (by kernel_rfl) (fun _ _ _ h => h) (Or.inl ⟨by kernel_rfl, fun w' hw => by (obtain ⟨z0, z1, z2, z3, z4, z5, z6⟩ := hw; go_simp)⟩) hS ?_
                    refine wpAnyH_take (i := 2) (v := .bool true) rfl (by kernel_rfl) (by kernel_rfl) (by kernel_rfl) (fun _ _ _ h => h) (Or.inl ⟨by kernel_rfl, fun w' hw => by (obtain ⟨z0, z1, z2, z3, z4, z5, z6⟩ := hw; go_simp)⟩) hS ?_
                    refine wpAnyH_take (i := 3) (v := .bool true) rfl (by kernel_rfl) (by kernel_rfl) (by kernel_rfl) (fun _ _ _ h => h) (Or.inl ⟨by kernel_rfl, fun w' hw => by (obtain ⟨z0, z1, z2, z3, z4, z5, z6⟩ := hw; go_simp)⟩) hS ?_
                    refine wpAnyH_take (i := 4) (v := .slice (some ⟨br, or, none⟩) NC c1) rfl (by kernel_rfl) (by kernel_rfl) (by kernel_rfl) (fun _ _ _ h => h) (Or.inl ⟨by kernel_rfl, fun w' hw => by (obtain ⟨z0, z1, z2, z3, z4, z5, z6⟩ := hw; go_simp)⟩) hS ?_
                    refine wpAnyH_take (i := 5) (v := .int .i64 (k : Int)) rfl (by kernel_rfl) (by kernel_rfl) (by kernel_rfl) (fun _ _ _ h => h) (Or.inl ⟨by kernel_rfl, fun w' hw => by (obtain ⟨z0, z1, z2, z3, z4, z5, z6⟩ := hw; go_simp)⟩) hS ?_
                    refine wpAnyH_take (i := 6) (v := .pointer (some ⟨br, or + k, none⟩)) rfl (by kernel_rfl) (by kernel_rfl) (by kernel_rfl) (fun _ _ _ h => h) (Or.inl ⟨by kernel_rfl, fun w' hw => by (obtain ⟨z0, z1, z2, z3, z4, z5, z6⟩ := hw; go_simp)⟩) hS ?_
                    refine wpAnyH_take (i := 7) (v := .int .i32 (er : Int)) rfl (by kernel_rfl) (by kernel_rfl) (by kernel_rfl) (fun _ _ _ h => h) (Or.inl ⟨by kernel_rfl, fun w' hw => by (obtain ⟨z0, z1, z2, z3, z4, z5, z6⟩ := hw; go_simp)⟩) hS ?_
                    refine wpAnyH_take (i := 8) (v := .bool true) rfl (by kernel_rfl) (by kernel_rfl) (by kernel_rfl) (fun _ _ _ h => h) (Or.inl ⟨by kernel_rfl, fun w' hw => by (obtain ⟨z0, z1, z2, z3, z4, z5, z6⟩ := hw; go_simp)⟩) hS ?_
                    refine wpAnyH_take (i := 9) (v := .bool true) rfl (by kernel_rfl) (by kernel_rfl) (by kernel_rfl) (fun _ _ _ h => h) (Or.inl ⟨by kernel_rfl, fun w' hw => by (obtain ⟨z0, z1, z2, z3, z4, z5, z6⟩ := hw; go_simp)⟩) hS ?_
                    refine wpAnyH_take (i := 10) (v := undef) rfl (by kernel_rfl) (by kernel_rfl) (by kernel_rfl) (fun _ _ _ h => h) (Or.inr ⟨by kernel_rfl, rfl⟩) hS ?_
                    refine wpAnyH_take (i := 11) (v := undef) rfl (by kernel_rfl) (by kernel_rfl) (by kernel_rfl) (fun _ _ _ h => h) (Or.inr ⟨by kernel_rfl, rfl⟩) hS ?_
                    refine wpAnyH_take (i := 12) (v := undef) rfl (by kernel_rfl) (by kernel_rfl) (by kernel_rfl) (fun _ _ _ h => h) (Or.inr ⟨by kernel_rfl, rfl⟩) hS ?_
                    refine wpAnyH_take (i := 13) (v := undef) rfl (by kernel_rfl) (by kernel_rfl) (by kernel_rfl) (fun _ _ _ h => h) (Or.inr ⟨by kernel_rfl, rfl⟩) hS ?_
                    refine wpAnyH_take (i := 14) (v := undef) rfl (by kernel_rfl) (by kernel_rfl) (by kernel_rfl) (fun _ _ _ h => h) (Or.inr ⟨by kernel_rfl, rfl⟩) hS ?_
                    refine wpAnyH_take (i := 15) (v := undef) rfl (by kernel_rfl) (by kernel_rfl) (by kernel_rfl) (fun _ _ _ h => h) (Or.inr ⟨by kernel_rfl, rfl⟩) hS ?_
                    refine wpAnyH_take (i := 16) (v := undef) rfl (by kernel_rfl) (by kernel_rfl) (by kernel_rfl) (fun _ _ _ h => h) (Or.inr ⟨by kernel_rfl, rfl⟩) hS ?_
                    refine wpAnyH_take (i := 17) (v := undef) rfl (by kernel_rfl) (by kernel_rfl) (by kernel_rfl) (fun _ _ _ h => h) (Or.inr ⟨by kernel_rfl, rfl⟩) hS ?_
                    refine wpAnyH_take (i := 18) (v := undef) rfl (by kernel_rfl) (by kernel_rfl) (by kernel_rfl) (fun _ _ _ h => h) (Or.inr ⟨by kernel_rfl, rfl⟩) hS ?_
                    refine wpAnyH_take (i := 19) (v := undef) rfl (by kernel_rfl) (by kernel_rfl) (by kernel_rfl) (fun _ _ _ h => h) (Or.inr ⟨by kernel_rfl, rfl⟩) hS ?_
                    refine wpAnyH_take (i := 20) (v := undef) rfl (by kernel_rfl) (by kernel_rfl) (by kernel_rfl) (fun _ _ _ h => h) (Or.inr ⟨by kernel_rfl, rfl⟩) hS ?_
                    refine wpAnyH_take (i := 21) (v := .bool true) rfl (by kernel_rfl) (by kernel_rfl) (by kernel_rfl) (fun _ _ _ h => h) (Or.inl ⟨by kernel_rfl, fun w' hw => by (obtain ⟨z0, z1, z2, z3, z4, z5, z6⟩ := hw; go_simp)⟩) hS ?_
                    refine wpAnyH_take (i := 22) (v := .bool true) rfl (by kernel_rfl) (by kernel_rfl) (by kernel_rfl) (fun _ _ _ h => h) (Or.inl ⟨by kernel_rfl, fun w' hw => by (obtain ⟨z0, z1, z2, z3, z4, z5, z6⟩ := hw; go_simp)⟩) hS ?_
                    refine wpAnyH_done (by kernel_rfl) (noPO_normal ?_) _
                    try simp only [Act.put, List.getElem_toArray, List.getElem_cons_zero, List.getElem_cons_succ, List.setIfInBounds_toArray, List.set_cons_zero, List.set_cons_succ]
                    gi_wp2
                    go_roundw
                    case rel =>
                      obtain ⟨hn, ⟨hKA, hKB, hKC⟩, hBr⟩ := HH.out
                      have hl1 := (Array.getElem?_eq_some_iff.1 hKA).1
                      have hl2 := (Array.getElem?_eq_some_iff.1 hKB).1
                      have hl3 := (Array.getElem?_eq_some_iff.1 hKC).1
                      have e1 : (((k + 1 : Nat) : Int)) = (k : Int) + 1 := by omega
                      refine ⟨k + 1, ⟨by omega, wr_stay HFI.out HE.out hi⟩, by rw [e1]; exact hn.set (.int .i64 ((k : Int) + 1)), ⟨((grownBy_setCell' wr X0.heap.size (.int .i64 ((k : Int) + 1))).block DA hl1 (fun e => by have := Option.some.inj e; omega)).trans hKA, ((grownBy_setCell' wr X0.heap.size (.int .i64 ((k : Int) + 1))).block DB hl2 (fun e => by have := Option.some.inj e; omega)).trans hKB, ((grownBy_setCell' wr X0.heap.size (.int .i64 ((k : Int) + 1))).block DC hl3 (fun e => by have := Option.some.inj e; omega)).trans hKC⟩, (hBr.setCell (p := ⟨X0.heap.size, 0, none⟩) (Nat.le_refl _) (.int .i64 ((k : Int) + 1))).drew⟩
                    case measure =>
                      have e1 := ((HH.out.1).set (.int .i64 ((k : Int) + 1))).cell
                      have e2 := (HH.out.1).cell
                      have e1' : (wr.setCell ⟨X0.heap.size, 0, none⟩ (.int .i64 ((k : Int) + 1))).drew.cell? ⟨X0.heap.size, 0, none⟩ = some (.int .i64 ((k : Int) + 1)) := e1
                      rw [e1', e2]
                      simp [intOf]
                      omega
                · have hkN : k = NC := by omega
                  subst hkN
                  obtain ⟨h0, h1, h2, h3, hsu, hsn, hBw⟩ := FX.out wr hBr
                  have cn := hn.cell
                  have d1 := h1.cell
                  have endS : ∀ tmps : Array Value, tmps.getD 2 undef = .pointer (some ⟨w.heap.size, 0, none⟩) →
                      LeavesInM Fence.wide 3 Try.prog Try.f4 tmps (fun e w' => e = .returned (.bool true) ∧ Below w.heap.size w w') [mk1 DC, mk1 DB, mk1 DA] .returning (wr.drew.setCell ⟨w.heap.size, 0, none⟩ (.bool true)) := by
                    intro tmps ht
                    have hX2 : Below wr.heap.size wr wr.drew := (Below.refl _ _).drew
                    refine leaves_box (p := 2) (ty := 4) (g := w.heap.size) (t := 4) (B := w.heap.size) (w0 := w) rfl ht (fun w' hw => load_boolT hw) (Nat.le_refl _) [DC, DB, DA] _ (by simp; omega) (fun d hd => ?_) ((below_boxed_t hX2 h0).set _) ((bseq hBw hX2).setCell (p := ⟨w.heap.size, 0, none⟩) (Nat.le_refl _) _)
                    have key : ∀ d, w.heap.size < d → wr.heap[d]? = some (.deferred (some [])) → (wr.drew.setCell ⟨w.heap.size, 0, none⟩ (.bool true)).heap[d]? = some (.deferred (some [])) := fun d hd h => by
                      have e1 := (hX2.block d (Array.getElem?_eq_some_iff.1 h).1).trans h
                      refine ((grownBy_setCell' wr.drew w.heap.size (.bool true)).block d (Array.getElem?_eq_some_iff.1 e1).1 (fun e => ?_)).trans e1
                      have := Option.some.inj e
                      omega
                    simp only [List.mem_cons, List.not_mem_nil, or_false] at hd
                    rcases hd with rfl | rfl | rfl
                    · exact ⟨by omega, key _ (by omega) hKC⟩
                    · exact ⟨by omega, key _ (by omega) hKB⟩
                    · exact ⟨by omega, key _ (by omega) hKA⟩
                  have hS0 : wr.drew.cell? ⟨X0.heap.size, 0, none⟩ = some (.int .i64 (k : Int)) ∧ wr.drew.cell? ⟨w1.heap.size, 0, none⟩ = some (.int .i64 (k : Int)) := ⟨cn, d1⟩
                  have d0 : wr.drew.cell? ⟨w.heap.size, 0, none⟩ = some (.bool false) := h0.cell
                  have d0f : wr.drew.frozen? ⟨w.heap.size, 0, none⟩ = false := h0.frozen
                  have hno : decide ((k : Int) < (k : Int)) = false := by simp
                  have hee : ((k : Int) == (k : Int)) = true := by simp
                  have ENDS := hide endS
                  clear endS h0 h1 h2 h3 hsu hsn hBw hn hKA hKB hKC hBr hfil
                  gi_wp2_with (fail)
                  refine wpIn_wide.2 (Go.wp_mono (Q := noPO _) ?_ noPO_le)
                  refine wp_region_held_drew (S := fun W => W.cell? ⟨X0.heap.size, 0, none⟩ = some (.int .i64 (k : Int)) ∧ W.cell? ⟨w1.heap.size, 0, none⟩ = some (.int .i64 (k : Int))) (by kernel_rfl) hS0 (fun hS => ?_)
                  refine wpAnyH_take (i := 0) (v := .int .i64 (k : Int)) rfl (by kernel_rfl) (by kernel_rfl) (by kernel_rfl) (fun _ _ _ h => h) (Or.inl ⟨by kernel_rfl, fun w' hw => by (obtain ⟨z0, z1⟩ := hw; go_simp)⟩) hS ?_
                  refine wpAnyH_take (i := 1) (v := .int .i64 (k : Int)) rfl (by kernel_rfl) (by kernel_rfl) (by kernel_rfl) (fun _ _ _ h => h) (Or.inl ⟨by kernel_rfl, fun w' hw => by (obtain ⟨z0, z1⟩ := hw; go_simp)⟩) hS ?_
                  refine wpAnyH_take (i := 2) (v := .bool false) rfl (by kernel_rfl) (by kernel_rfl) (by kernel_rfl) (fun _ _ _ h => h) (Or.inl ⟨by kernel_rfl, fun w' hw => by (obtain ⟨z0, z1⟩ := hw; go_simp)⟩) hS ?_
                  refine wpAnyH_take (i := 3) (v := .bool false) rfl (by kernel_rfl) (by kernel_rfl) (by kernel_rfl) (fun _ _ _ h => h) (Or.inl ⟨by kernel_rfl, fun w' hw => by (obtain ⟨z0, z1⟩ := hw; go_simp)⟩) hS ?_
                  refine wpAnyH_take (i := 4) (v := undef) rfl (by kernel_rfl) (by kernel_rfl) (by kernel_rfl) (fun _ _ _ h => h) (Or.inr ⟨by kernel_rfl, rfl⟩) hS ?_
                  refine wpAnyH_take (i := 5) (v := undef) rfl (by kernel_rfl) (by kernel_rfl) (by kernel_rfl) (fun _ _ _ h => h) (Or.inr ⟨by kernel_rfl, rfl⟩) hS ?_
                  refine wpAnyH_take (i := 6) (v := undef) rfl (by kernel_rfl) (by kernel_rfl) (by kernel_rfl) (fun _ _ _ h => h) (Or.inr ⟨by kernel_rfl, rfl⟩) hS ?_
                  refine wpAnyH_take (i := 7) (v := undef) rfl (by kernel_rfl) (by kernel_rfl) (by kernel_rfl) (fun _ _ _ h => h) (Or.inr ⟨by kernel_rfl, rfl⟩) hS ?_
                  refine wpAnyH_take (i := 8) (v := undef) rfl (by kernel_rfl) (by kernel_rfl) (by kernel_rfl) (fun _ _ _ h => h) (Or.inr ⟨by kernel_rfl, rfl⟩) hS ?_
                  refine wpAnyH_take (i := 9) (v := undef) rfl (by kernel_rfl) (by kernel_rfl) (by kernel_rfl) (fun _ _ _ h => h) (Or.inr ⟨by kernel_rfl, rfl⟩) hS ?_
                  refine wpAnyH_take (i := 10) (v := undef) rfl (by kernel_rfl) (by kernel_rfl) (by kernel_rfl) (fun _ _ _ h => h) (Or.inr ⟨by kernel_rfl, rfl⟩) hS ?_
                  refine wpAnyH_take (i := 11) (v := undef) rfl (by kernel_rfl) (by kernel_rfl) (by kernel_rfl) (fun _ _ _ h => h) (Or.inr ⟨by kernel_rfl, rfl⟩) hS ?_
                  refine wpAnyH_take (i := 12) (v := undef) rfl (by kernel_rfl) (by kernel_rfl) (by kernel_rfl) (fun _ _ _ h => h) (Or.inr ⟨by kernel_rfl, rfl⟩) hS ?_
                  refine wpAnyH_take (i := 13) (v := undef) rfl (by kernel_rfl) (by kernel_rfl) (by kernel_rfl) (fun _ _ _ h => h) (Or.inr ⟨by kernel_rfl, rfl⟩) hS ?_
                  refine wpAnyH_take (i := 14) (v := undef) rfl (by kernel_rfl) (by kernel_rfl) (by kernel_rfl) (fun _ _ _ h => h) (Or.inr ⟨by kernel_rfl, rfl⟩) hS ?_
                  refine wpAnyH_take (i := 15) (v := undef) rfl (by kernel_rfl) (by kernel_rfl) (by kernel_rfl) (fun _ _ _ h => h) (Or.inr ⟨by kernel_rfl, rfl⟩) hS ?_
                  refine wpAnyH_take (i := 16) (v := undef) rfl (by kernel_rfl) (by kernel_rfl) (by kernel_rfl) (fun _ _ _ h => h) (Or.inr ⟨by kernel_rfl, rfl⟩) hS ?_
                  refine wpAnyH_take (i := 17) (v := undef) rfl (by kernel_rfl) (by kernel_rfl) (by kernel_rfl) (fun _ _ _ h => h) (Or.inr ⟨by kernel_rfl, rfl⟩) hS ?_
                  refine wpAnyH_take (i := 18) (v := undef) rfl (by kernel_rfl) (by kernel_rfl) (by kernel_rfl) (fun _ _ _ h => h) (Or.inr ⟨by kernel_rfl, rfl⟩) hS ?_
                  refine wpAnyH_take (i := 19) (v := undef) rfl (by kernel_rfl) (by kernel_rfl) (by kernel_rfl) (fun _ _ _ h => h) (Or.inr ⟨by kernel_rfl, rfl⟩) hS ?_
                  refine wpAnyH_take (i := 20) (v := undef) rfl (by kernel_rfl) (by kernel_rfl) (by kernel_rfl) (fun _ _ _ h => h) (Or.inr ⟨by kernel_rfl, rfl⟩) hS ?_
                  refine wpAnyH_take (i := 21) (v := undef) rfl (by kernel_rfl) (by kernel_rfl) (by kernel_rfl) (fun _ _ _ h => h) (Or.inr ⟨by kernel_rfl, rfl⟩) hS ?_
                  refine wpAnyH_take (i := 22) (v := .bool false) rfl (by kernel_rfl) (by kernel_rfl) (by kernel_rfl) (fun _ _ _ h => h) (Or.inl ⟨by kernel_rfl, fun w' hw => by (obtain ⟨z0, z1⟩ := hw; go_simp)⟩) hS ?_
                  refine wpAnyH_done (by kernel_rfl) (noPO_normal ?_) _
                  try simp only [Act.put, List.getElem_toArray, List.getElem_cons_zero, List.getElem_cons_succ, List.setIfInBounds_toArray, List.set_cons_zero, List.set_cons_succ]
                  obtain ⟨s0', s1'⟩ := hS
                  gi_wp2
                  exact ENDS.out _ rfl
end Go.Proofs.Ytfiocfhehofheaa.utfRange
