/- What lines.Where answers. -/
import Derived.Test.YtegplcomhahpfaaLUse
import Derived.Test.YtegplcomhahpfaaLM2
import Derived.BigRegionIn
import Derived.Deep.RegionHeld3
namespace Go.Proofs.Ytegplcomhahpfaa
open Go.RowKit Go.Shelf
set_option linter.unusedVariables false
attribute [local go_sem] Oper.semAt_some

/-- What a function answers whose first result lies in a variable of its own. -/
theorem results_row_tmp' {P : Program} {fn : Func} {p u : Tmp} {ty : TypeId} (h : fn.results = #[.cell p ty, .tmp u]) (tmps : Array Value) (w : World) (g : Nat) (t : TypeId) (cs : Array Value) (fr : Nat × Nat) (d : TypeDesc)
    (hp : tmps.getD p undef = .pointer (some ⟨g, 0, none⟩)) (hg : w.heap[g]? = some (.cells cs t fr))
    (hu : P.underlying ty = some d) (hd : (match d with | .struct _ | .array _ _ => true | _ => false) = true) (hi : (P.info? ty).map (·.size) = some cs.size) :
    (results fn tmps).run P w = .ok (.tuple #[.agg cs, tmps.getD u undef]) w := by
  rw [results_cell_tmp h, hp]
  simp [asAddr, run_loadVar_row w g t ty cs fr d hg hu hd hi]

/-- The orders of a region meet again. -/
theorem region_meet {F : Fence} {n : Nat} {P : Program} {c : Code} {Q : Exit → Act → World → Prop} {a : Act} {w : World} {act : Act} {X : World} (h : c.wpIn F n P (fun e a w2 => e = .normal ∧ a = act ∧ (w2 = X ∨ w2 = X.drew)) a w) (h2 : ∀ w2, (w2 = X ∨ w2 = X.drew) → Q .normal act w2) : c.wpIn F n P Q a w :=
  wpIn_mono h (by rintro e a w2 ⟨rfl, rfl, hx⟩; exact h2 w2 hx)

/-- How a region is left that does not panic. -/
def meetQ (act : Act) (R : World → Prop) : Exit → Act → World → Prop
  | .normal, a, w => a = act ∧ R w
  | _, _, _ => False
theorem wp_meet {n : Nat} {P : Program} {c : Code} {Q : Exit → Act → World → Prop} {a : Act} {w : World} {act : Act} (R : World → Prop) (h : c.wp P (meetQ act R) a w) (h2 : ∀ w2, R w2 → Q .normal act w2) : c.wpIn Fence.wide n P Q a w := by
  refine wpIn_mono (wpIn_wide.2 h) ?_
  intro e a' w' hq
  cases e with
  | normal => obtain ⟨rfl, hr⟩ := hq; exact h2 _ hr
  | _ => exact hq.elim

/-- The line that a place has, as the program looks for it. -/
def WhereAt (l : List UInt8) (i k : Nat) (x : Nat × Nat × Nat) : Prop := (Ls l)[k]? = some x ∧ (∀ j y, j < k → (Ls l)[j]? = some y → y.2.1 + y.2.2 ≤ i) ∧ (i < x.2.1 + x.2.2 ∨ k + 1 = (Ls l).length)

theorem where_bad (s : ByteArray) (n : Int) (w : World) (hb : n < 0 ∨ (s.size : Int) < n) :
    Calls Try.prog 26 #[.string s, .int .i64 n] w fun e w' => e = .returned (.tuple #[.agg #[.int .i64 0, .int .i64 0], .int .i64 6]) ∧ Below w.heap.size w w' := by
  by_cases h : n < 0
  · clear hb
    go_enter Try.func26, Try.ntmps26
    go_wp2
    refine bodyPost_ret (results_row_tmp' rfl _ _ (w.heap.size + 1) 47 #[.int .i64 0, .int .i64 0] (0, 0) _ rfl (heap_alloc2_new _ _ _) Try.underlying47 rfl (by kernel_rfl)) rfl ?_
    exact ⟨rfl, ((Below.refl _ w).alloc (Nat.le_refl _) _).alloc (by simp) _⟩
  · have h2 : (s.size : Int) < n := by omega
    have h3 : 0 ≤ n := by omega
    clear hb h
    go_enter Try.func26, Try.ntmps26
    go_wp2
    refine bodyPost_ret (results_row_tmp' rfl _ _ (w.heap.size + 1) 47 #[.int .i64 0, .int .i64 0] (0, 0) _ rfl (heap_alloc2_new _ _ _) Try.underlying47 rfl (by kernel_rfl)) rfl ?_
    exact ⟨rfl, ((Below.refl _ w).alloc (Nat.le_refl _) _).alloc (by simp) _⟩

/-- The line that has been told last. -/
def lastL (pre : List (Nat × Nat × Nat)) : Nat × Nat × Nat := pre.getLast?.getD (0, 0, 0)
theorem lastL_snoc (pre : List (Nat × Nat × Nat)) (x : Nat × Nat × Nat) : lastL (pre ++ [x]) = x := by simp [lastL]

set_option maxRecDepth 100000 in
set_option maxHeartbeats 4000000 in
theorem where_in (s : ByteArray) (n : Nat) (w : World) (hn : n ≤ s.size) (hs : s.size ≤ 4611686018427387904) :
    Calls Try.prog 26 #[.string s, .int .i64 (n : Int)] w fun e w' => (∃ k x, WhereAt (bl s) n k x ∧ x.1 ≤ n ∧ e = .returned (.tuple #[.agg #[.int .i64 (k : Int), .int .i64 (ofV (bl (s.extract x.1 (x.2.1 + x.2.2))) ((n : Int) - x.1)).1], .int .i64 (ofV (bl (s.extract x.1 (x.2.1 + x.2.2))) ((n : Int) - x.1)).2])) ∧ Below w.heap.size w w' := by
  have hll := Ls_len (bl s)
  rw [bl_len] at hll
  have hnI : (n : Int) ≤ (s.size : Int) := by omega
  refine (callsIn_wide (n := 3)).1 ?_
  refine callsIn_of_wp_marks Try.func26 rfl trivial ?_ rfl
  simp only [Try.ntmps26, List.size_toArray, List.length_cons, List.length_nil, Nat.reduceAdd, Nat.reduceSub, Array.replicate_succ, Array.replicate_zero, List.push_toArray, List.append_toArray, List.nil_append, List.cons_append]
  gi_wp2_with (refine ⟨trivial, ?_⟩; gi_at_call 23; refine (lall_in s _).mono ?_; rintro e w' ⟨rfl, rfl⟩)
  have b0 := ((((((Boxed.new w 3 (.int .i64 (n : Int))).alloc (.cells #[.int .i64 0, .int .i64 0] 47)).alloc (.cells #[.int .i64 (-1)] 3)).alloc (.cells #[.int .i64 0] 3)).alloc (.cells #[.int .i64 0] 3)).alloc (.cells #[.string s] 9))
  have b1 : Box2 (((((w.alloc (.cells #[.int .i64 (n : Int)] 3)).alloc (.cells #[.int .i64 0, .int .i64 0] 47)).alloc (.cells #[.int .i64 (-1)] 3)).alloc (.cells #[.int .i64 0] 3)).alloc (.cells #[.int .i64 0] 3) |>.alloc (.cells #[.string s] 9)) (w.heap.size + 1) 47 (.int .i64 0) (.int .i64 0) := by
    have h : Box2 ((w.alloc (.cells #[.int .i64 (n : Int)] 3)).alloc (.cells #[.int .i64 0, .int .i64 0] 47)) (w.heap.size + 1) 47 (.int .i64 0) (.int .i64 0) := heap_alloc2_new _ _ _
    exact ((((h.below ((Below.refl _ _).alloc (Nat.le_refl _) _)).below ((Below.refl _ _).alloc (Nat.le_refl _) _)).below ((Below.refl _ _).alloc (Nat.le_refl _) _)).below ((Below.refl _ _).alloc (Nat.le_refl _) _))
  have b2 := (((Boxed.new ((w.alloc (.cells #[.int .i64 (n : Int)] 3)).alloc (.cells #[.int .i64 0, .int .i64 0] 47)) 3 (.int .i64 (-1))).alloc (.cells #[.int .i64 0] 3)).alloc (.cells #[.int .i64 0] 3)).alloc (.cells #[.string s] 9)
  have b3 := ((Boxed.new (((w.alloc (.cells #[.int .i64 (n : Int)] 3)).alloc (.cells #[.int .i64 0, .int .i64 0] 47)).alloc (.cells #[.int .i64 (-1)] 3)) 3 (.int .i64 0)).alloc (.cells #[.int .i64 0] 3)).alloc (.cells #[.string s] 9)
  have b4 := (Boxed.new ((((w.alloc (.cells #[.int .i64 (n : Int)] 3)).alloc (.cells #[.int .i64 0, .int .i64 0] 47)).alloc (.cells #[.int .i64 (-1)] 3)).alloc (.cells #[.int .i64 0] 3)) 3 (.int .i64 0)).alloc (.cells #[.string s] 9)
  have b5 := Boxed.new (((((w.alloc (.cells #[.int .i64 (n : Int)] 3)).alloc (.cells #[.int .i64 0, .int .i64 0] 47)).alloc (.cells #[.int .i64 (-1)] 3)).alloc (.cells #[.int .i64 0] 3)).alloc (.cells #[.int .i64 0] 3)) 9 (.string s)
  have hB0 : Below w.heap.size w ((((((w.alloc (.cells #[.int .i64 (n : Int)] 3)).alloc (.cells #[.int .i64 0, .int .i64 0] 47)).alloc (.cells #[.int .i64 (-1)] 3)).alloc (.cells #[.int .i64 0] 3)).alloc (.cells #[.int .i64 0] 3)).alloc (.cells #[.string s] 9)) :=
    ((((((Below.refl _ w).alloc (Nat.le_refl _) _).alloc (by simp) _).alloc (by simp; omega) _).alloc (by simp; omega) _).alloc (by simp; omega) _).alloc (by simp; omega) _
  have hsz : ((((((w.alloc (.cells #[.int .i64 (n : Int)] 3)).alloc (.cells #[.int .i64 0, .int .i64 0] 47)).alloc (.cells #[.int .i64 (-1)] 3)).alloc (.cells #[.int .i64 0] 3)).alloc (.cells #[.int .i64 0] 3)).alloc (.cells #[.string s] 9)).heap.size = w.heap.size + 6 := by simp
  simp only [World.size_alloc] at b2 b3 b4 b5
  obtain ⟨W0, hW0⟩ : ∃ W0, ((((((w.alloc (.cells #[.int .i64 (n : Int)] 3)).alloc (.cells #[.int .i64 0, .int .i64 0] 47)).alloc (.cells #[.int .i64 (-1)] 3)).alloc (.cells #[.int .i64 0] 3)).alloc (.cells #[.int .i64 0] 3)).alloc (.cells #[.string s] 9)) = W0 := ⟨_, rfl⟩
  rw [hW0] at b0 b1 b2 b3 b4 b5 hB0 hsz ⊢
  clear hW0
  simp only [Nat.add_assoc, Nat.reduceAdd] at b0 b1 b2 b3 b4 b5 ⊢
  apply rangeP (gf := 32) (lb := #[.pointer (some ⟨w.heap.size + 5, 0, none⟩)]) (encs := encL) rfl (enters_of Try.func32 (by kernel_rfl) rfl)
    (lall_x (fun _ => False) (fun k => k = w.heap.size + 5) (w.heap.size + 5) s W0 (by omega) rfl (fun k h => by omega) b5.cell id id) (Below.refl _ _) (fun k h => by omega) (fun _ => rfl)
    (fun pre W' => ((Boxed W' w.heap.size 3 (.int .i64 (n : Int)) ∧ Boxed W' (w.heap.size + 2) 3 (.int .i64 ((pre.length : Nat) - 1 : Int))) ∧ (Box2 W' (w.heap.size + 1) 47 (.int .i64 0) (.int .i64 0) ∧ (Boxed W' (w.heap.size + 3) 3 (.int .i64 ((lastL pre).1 : Nat)) ∧ Boxed W' (w.heap.size + 4) 3 (.int .i64 (((lastL pre).2.1 + (lastL pre).2.2 : Nat) : Int))))) ∧ ((∀ y ∈ pre, y.2.1 + y.2.2 ≤ n) ∧ (W0.heap.size ≤ W'.heap.size ∧ Below w.heap.size w W')))
    (fun c pre W' => ((c = .exit 0 ∧ Boxed W' w.heap.size 3 (.int .i64 (n : Int)) ∧ Boxed W' (w.heap.size + 2) 3 (.int .i64 ((pre.length : Nat) - 1 : Int))) ∧ (Box2 W' (w.heap.size + 1) 47 (.int .i64 0) (.int .i64 0) ∧ (Boxed W' (w.heap.size + 3) 3 (.int .i64 ((lastL pre).1 : Nat)) ∧ Boxed W' (w.heap.size + 4) 3 (.int .i64 (((lastL pre).2.1 + (lastL pre).2.2 : Nat) : Int))))) ∧ ((∃ q x, pre = q ++ [x] ∧ (∀ y ∈ q, y.2.1 + y.2.2 ≤ n) ∧ n < x.2.1 + x.2.2) ∧ Below w.heap.size w W'))
    (Stab.and (Stab.and (Stab.and (Stab.box _ _ (by omega)) (Stab.boxed _ _ (by omega))) (Stab.and (Stab.box2 _ _ _ (by omega)) (Stab.and (Stab.boxed _ _ (by omega)) (Stab.boxed _ _ (by omega))))) (Stab.and (Stab.pure _) (Stab.and (fun s A B h hs => Nat.le_trans h hs.1.2.2.2) (Stab.below (by omega) (by omega)))))
    (fun c => Stab.and (Stab.and (Stab.and (Stab.pure _) (Stab.and (Stab.box _ _ (by omega)) (Stab.boxed _ _ (by omega)))) (Stab.and (Stab.box2 _ _ _ (by omega)) (Stab.and (Stab.boxed _ _ (by omega)) (Stab.boxed _ _ (by omega))))) (Stab.and (Stab.pure _) (Stab.below (by omega) (by omega))))
    ⟨⟨⟨b0, b2⟩, b1, b3, b4⟩, fun j h => by simp at h, Nat.le_refl _, hB0⟩ (fun x => #[.int .i64 (x.1 : Int), .int .i64 (x.2.1 : Int)]) 28
  case hsize => exact fun s W h => h.2.2.1
  case hassign =>
    intro l' x W' K hK
    simp only [encL]
    gi_wp2
    exact hK _ ((Below.refl _ _).alloc (Nat.le_refl _) _) (heap_alloc_new _ _)
  case hbody =>
    rintro l' pre x Wb W' ⟨⟨⟨h0, h2⟩, h1, h3, h4⟩, hno, hsz', hB⟩ hWb hpc hpx
    obtain ⟨hpl, hget⟩ := take_of_pre hpx
    have hmem := Ls_mem (List.mem_of_getElem? hget)
    rw [bl_len] at hmem
    have hne : ∀ k, k < w.heap.size + 6 → Wb.heap.size ≠ k := fun k hk => by omega
    have c0 := h0.cell
    have c2 := h2.cell
    have f2 := h2.frozen
    have H2 := h2.set (.int .i64 (pre.length : Int))
    have H0 := h0.other (B' := w.heap.size + 2) (by omega) (.int .i64 (pre.length : Int))
    have H1 := h1.other (b := w.heap.size + 2) (o := 0) (by omega) (.int .i64 (pre.length : Int))
    have H3 := h3.other (B' := w.heap.size + 2) (by omega) (.int .i64 (pre.length : Int))
    have H4 := h4.other (B' := w.heap.size + 2) (by omega) (.int .i64 (pre.length : Int))
    have HP : Box2 (W'.setCell ⟨w.heap.size + 2, 0, none⟩ (.int .i64 (pre.length : Int))) Wb.heap.size 28 (.int .i64 (x.1 : Int)) (.int .i64 (x.2.1 : Int)) := Box2.other (show Box2 W' _ _ _ _ from hpc) (hne _ (by omega)) _
    have HB : Below w.heap.size w (W'.setCell ⟨w.heap.size + 2, 0, none⟩ (.int .i64 (pre.length : Int))) := hB.setCell (p := ⟨w.heap.size + 2, 0, none⟩) (Nat.le_add_right _ _) _
    have HK : Kp (fun _ => False) (fun k => k = w.heap.size + 5) W0.heap.size W' (W'.setCell ⟨w.heap.size + 2, 0, none⟩ (.int .i64 (pre.length : Int))) := Kp.set _ (fun h => by omega) (by omega)
    have HSZ : W0.heap.size ≤ (W'.setCell ⟨w.heap.size + 2, 0, none⟩ (.int .i64 (pre.length : Int))).heap.size := by simpa [World.setCell] using hsz'
    clear h0 h1 h2 h3 h4 hB hsz' hpc
    have HH := hide (And.intro H0 (And.intro H1 (And.intro H2 (And.intro H3 (And.intro H4 (And.intro HP (And.intro HB (And.intro HK HSZ))))))))
    clear H0 H1 H2 H3 H4 HP HB HK HSZ
    gi_wp2
    obtain ⟨H0, H1, H2, H3, H4, HP, HB, HK, HSZ⟩ := HH
    generalize hW1 : W'.setCell ⟨w.heap.size + 2, 0, none⟩ (.int .i64 (pre.length : Int)) = W1 at *
    have p0 := celOf HP 0 _ rfl
    have p1 := celOf HP 1 _ rfl
    have k3 := H3.cell
    have g3 := H3.frozen
    have k4 := H4.cell
    have g4 := H4.frozen
    have k4' := (oth H4 (b := w.heap.size + 3) (o := 0) (by omega) (.int .i64 (x.1 : Int))).cell
    have p1' := celOf (HP.other (b := w.heap.size + 3) (o := 0) (hne _ (by omega)) (.int .i64 (x.1 : Int))) 1 _ rfl
    have k0' := (oth (oth H0 (b := w.heap.size + 3) (o := 0) (by omega) (.int .i64 (x.1 : Int))) (b := w.heap.size + 4) (o := 0) (by omega) (.int .i64 ((x.2.1 : Int) + (x.2.2 : Int)))).cell
    have k5' := ((oth H4 (b := w.heap.size + 3) (o := 0) (by omega) (.int .i64 (x.1 : Int))).set (.int .i64 ((x.2.1 : Int) + (x.2.2 : Int)))).cell
    have hwr : IntKind.i64.wrap ((x.2.1 : Int) + (x.2.2 : Int)) = (x.2.1 : Int) + (x.2.2 : Int) := by rw [IntKind.wrap_i64]; omega
    have q0 : Boxed ((W1.setCell ⟨w.heap.size + 3, 0, none⟩ (.int .i64 (x.1 : Int))).setCell ⟨w.heap.size + 4, 0, none⟩ (.int .i64 ((x.2.1 : Int) + (x.2.2 : Int)))) w.heap.size 3 (.int .i64 (n : Int)) := oth (o := 0) (oth (o := 0) H0 (by omega) _) (by omega) _
    have q1 : Box2 ((W1.setCell ⟨w.heap.size + 3, 0, none⟩ (.int .i64 (x.1 : Int))).setCell ⟨w.heap.size + 4, 0, none⟩ (.int .i64 ((x.2.1 : Int) + (x.2.2 : Int)))) (w.heap.size + 1) 47 (.int .i64 0) (.int .i64 0) := (H1.other (o := 0) (by omega) _).other (o := 0) (by omega) _
    have q2 : Boxed ((W1.setCell ⟨w.heap.size + 3, 0, none⟩ (.int .i64 (x.1 : Int))).setCell ⟨w.heap.size + 4, 0, none⟩ (.int .i64 ((x.2.1 : Int) + (x.2.2 : Int)))) (w.heap.size + 2) 3 (.int .i64 ((((pre ++ [x]).length : Nat) : Int) - 1)) := by
      have h := oth (b := w.heap.size + 4) (o := 0) (oth (b := w.heap.size + 3) (o := 0) H2 (by omega) (.int .i64 (x.1 : Int))) (by omega) (.int .i64 ((x.2.1 : Int) + (x.2.2 : Int)))
      simpa using h
    have q3 : Boxed ((W1.setCell ⟨w.heap.size + 3, 0, none⟩ (.int .i64 (x.1 : Int))).setCell ⟨w.heap.size + 4, 0, none⟩ (.int .i64 ((x.2.1 : Int) + (x.2.2 : Int)))) (w.heap.size + 3) 3 (.int .i64 ((lastL (pre ++ [x])).1 : Nat)) := by
      rw [lastL_snoc]; exact oth (o := 0) (H3.set _) (by omega) _
    have q4 : Boxed ((W1.setCell ⟨w.heap.size + 3, 0, none⟩ (.int .i64 (x.1 : Int))).setCell ⟨w.heap.size + 4, 0, none⟩ (.int .i64 ((x.2.1 : Int) + (x.2.2 : Int)))) (w.heap.size + 4) 3 (.int .i64 (((lastL (pre ++ [x])).2.1 + (lastL (pre ++ [x])).2.2 : Nat) : Int)) := by
      rw [lastL_snoc, Int.natCast_add]; exact (oth (o := 0) H4 (by omega) _).set _
    have qB : Below w.heap.size w ((W1.setCell ⟨w.heap.size + 3, 0, none⟩ (.int .i64 (x.1 : Int))).setCell ⟨w.heap.size + 4, 0, none⟩ (.int .i64 ((x.2.1 : Int) + (x.2.2 : Int)))) := (HB.setCell (p := ⟨w.heap.size + 3, 0, none⟩) (Nat.le_add_right _ _) _).setCell (p := ⟨w.heap.size + 4, 0, none⟩) (Nat.le_add_right _ _) _
    have qK : Kp (fun _ => False) (fun k => k = w.heap.size + 5) W0.heap.size W' ((W1.setCell ⟨w.heap.size + 3, 0, none⟩ (.int .i64 (x.1 : Int))).setCell ⟨w.heap.size + 4, 0, none⟩ (.int .i64 ((x.2.1 : Int) + (x.2.2 : Int)))) := (HK.trans (Kp.set _ (fun h => by omega) (by omega))).trans (Kp.set _ (fun h => by omega) (by omega))
    have qS : W0.heap.size ≤ ((W1.setCell ⟨w.heap.size + 3, 0, none⟩ (.int .i64 (x.1 : Int))).setCell ⟨w.heap.size + 4, 0, none⟩ (.int .i64 ((x.2.1 : Int) + (x.2.2 : Int)))).heap.size := by simpa [World.setCell] using HSZ
    have HQ := hide (And.intro q0 (And.intro q1 (And.intro q2 (And.intro q3 (And.intro q4 (And.intro qB (And.intro qK qS)))))))
    clear H0 H1 H2 H3 H4 HP HB HK HSZ hW1 q0 q1 q2 q3 q4 qB qK qS
    have HNO := hide hno
    have HPX := hide hpx
    clear hno hpx hget
    apply region_meet
    case h =>
      gi_region
      all_goals first | exact ⟨rfl, rfl, .inr rfl⟩ | exact ⟨rfl, rfl, .inl rfl⟩
    case h2 =>
      intro W2 hW2
      obtain ⟨q0, q1, q2, q3, q4, qB, qK, qS⟩ := HQ
      have hb2 : Below w.heap.size w W2 ∧ Kp (fun _ => False) (fun k => k = w.heap.size + 5) W0.heap.size W' W2 ∧ W0.heap.size ≤ W2.heap.size ∧ Boxed W2 w.heap.size 3 (.int .i64 (n : Int)) ∧ Box2 W2 (w.heap.size + 1) 47 (.int .i64 0) (.int .i64 0) ∧ Boxed W2 (w.heap.size + 2) 3 (.int .i64 ((((pre ++ [x]).length : Nat) : Int) - 1)) ∧ Boxed W2 (w.heap.size + 3) 3 (.int .i64 ((lastL (pre ++ [x])).1 : Nat)) ∧ Boxed W2 (w.heap.size + 4) 3 (.int .i64 (((lastL (pre ++ [x])).2.1 + (lastL (pre ++ [x])).2.2 : Nat) : Int)) := by
        rcases hW2 with rfl | rfl
        · exact ⟨qB, qK, qS, q0, q1, q2, q3, q4⟩
        · exact ⟨qB.drew, qK.trans (Kp.of_below (Below.refl _ _).drew), qS, q0, q1, q2, q3, q4⟩
      clear q0 q1 q2 q3 q4 qB qK qS k0' k5' p1' k4' hW2
      obtain ⟨qB, qK, qS, q0, q1, q2, q3, q4⟩ := hb2
      have k0 := q0.cell
      have k4b := q4.cell
      rw [lastL_snoc] at k4b
      have HQ := hide (And.intro q0 (And.intro q1 (And.intro q2 (And.intro q3 (And.intro q4 (And.intro qB (And.intro qK qS)))))))
      clear q0 q1 q2 q3 q4 qB qK qS
      by_cases hlt : n < x.2.1 + x.2.2
      · have hltI : (n : Int) < ((x.2.1 + x.2.2 : Nat) : Int) := by omega
        have HLT := hide hlt
        clear hlt
        gi_wp2
        obtain ⟨q0, q1, q2, q3, q4, qB, qK, qS⟩ := HQ
        exact ⟨qK, ⟨⟨rfl, q0, q2⟩, q1, q3, q4⟩, ⟨_, _, rfl, HNO.out, HLT.out⟩, qB⟩
      · have hltI : ((x.2.1 + x.2.2 : Nat) : Int) ≤ (n : Int) := by omega
        have HLT := hide hlt
        clear hlt
        gi_wp2
        obtain ⟨q0, q1, q2, q3, q4, qB, qK, qS⟩ := HQ
        refine ⟨qK, ⟨⟨q0, q2⟩, q1, q3, q4⟩, ?_, qS, qB⟩
        intro y hy
        rcases List.mem_append.1 hy with hy | hy
        · exact HNO.out y hy
        · rw [List.mem_singleton] at hy; subst hy; have := HLT.out; omega
  case hdone =>
    rintro D W' hD ⟨⟨⟨h0, h2⟩, h1, h3, h4⟩, hno, hsz', hB⟩ hK
    obtain ⟨q, x, hqx⟩ : ∃ q x, Ls (bl s) = q ++ [x] := ⟨_, _, rfl⟩
    obtain ⟨k, hk⟩ : ∃ k : Nat, k + 1 = (Ls (bl s)).length := ⟨(Ls (bl s)).length - 1, by have := Ls_pos (bl s); omega⟩
    have hfacts : WhereAt (bl s) n k x ∧ x.1 ≤ n ∧ x.1 ≤ x.2.1 ∧ x.2.1 + x.2.2 ≤ (bl s).length := by
      have hkl : k = q.length := by rw [hqx] at hk; simp at hk; omega
      have hx : (Ls (bl s))[k]? = some x := by rw [hqx, hkl]; simp
      have hpre : ∀ j y, j < k → (Ls (bl s))[j]? = some y → y.2.1 + y.2.2 ≤ n := fun j y hj hy => hno y (List.mem_of_getElem? hy)
      exact ⟨⟨hx, hpre, .inr hk⟩, Ls_from_le hx hpre, Ls_mem (List.mem_of_getElem? hx)⟩
    rw [hqx, lastL_snoc] at h3 h4
    rw [show (((Ls (bl s)).length : Nat) : Int) - 1 = (k : Int) by omega] at h2
    clear hno hqx hk hsz'
    obtain ⟨hWA, hx1, hmem⟩ := hfacts
    rw [bl_len] at hmem
    obtain ⟨t, ht⟩ : ∃ t, x.2.1 + x.2.2 = t := ⟨_, rfl⟩
    obtain ⟨u, hu⟩ : ∃ u, x.1 = u := ⟨_, rfl⟩
    rw [ht] at h4
    rw [hu] at h3
    have t1 : u ≤ t := by omega
    have t2 : t ≤ s.size := by omega
    have t3 : u ≤ n := by omega
    have t1' : (u : Int) ≤ (t : Int) := by omega
    have t2' : (t : Int) ≤ (s.size : Int) := by omega
    have t3' : (u : Int) ≤ (n : Int) := by omega
    have hwr : IntKind.i64.wrap ((n : Int) - (u : Int)) = (n : Int) - (u : Int) := by rw [IntKind.wrap_i64]; omega
    have HT := hide ht
    have HU := hide hu
    clear hmem hx1 ht hu
    have ko := fun w' => of_any (s.extract u t) ((n : Int) - (u : Int)) w' (by simp; omega)
    obtain ⟨v1, hv1⟩ : ∃ v1, (ofV (bl (s.extract u t)) ((n : Int) - (u : Int))).1 = v1 := ⟨_, rfl⟩
    obtain ⟨v2, hv2⟩ : ∃ v2, (ofV (bl (s.extract u t)) ((n : Int) - (u : Int))).2 = v2 := ⟨_, rfl⟩
    rw [hv1, hv2] at ko
    have HV1 := hide hv1
    have HV2 := hide hv2
    clear hv1 hv2
    have mk : ∀ W, Below W'.heap.size W' W → (Below W'.heap.size W' W ∧ W.cell? ⟨w.heap.size, 0, none⟩ = some (.int .i64 (n : Int)) ∧ W.cell? ⟨w.heap.size + 2, 0, none⟩ = some (.int .i64 (k : Int)) ∧ W.cell? ⟨w.heap.size + 3, 0, none⟩ = some (.int .i64 (u : Int)) ∧ W.cell? ⟨w.heap.size + 4, 0, none⟩ = some (.int .i64 (t : Int))) := fun W hB => ⟨hB, (below_boxed hB h0).cell, (below_boxed hB h2).cell, (below_boxed hB h3).cell, (below_boxed hB h4).cell⟩
    have KO := hide ko
    have MK := hide mk
    have H1 := hide h1
    have HB := hide hB
    have HK := hide hK
    have HWA := hide hWA
    clear ko mk h1 hB hWA hK h0 h2 h3 h4
    gi_wp2
    apply wp_meet (fun W2 => Below W'.heap.size W' W2)
    case h =>
      go_region_held3 (fun w' => Below W'.heap.size W' w' ∧ w'.cell? ⟨w.heap.size, 0, none⟩ = some (.int .i64 (n : Int)) ∧ w'.cell? ⟨w.heap.size + 2, 0, none⟩ = some (.int .i64 (k : Int)) ∧ w'.cell? ⟨w.heap.size + 3, 0, none⟩ = some (.int .i64 (u : Int)) ∧ w'.cell? ⟨w.heap.size + 4, 0, none⟩ = some (.int .i64 (t : Int))) (first | exact MK.out _ (Below.refl _ _).drew | exact MK.out _ hW2) (first | (go_at_call 36; refine (KO.out _).mono ?_; rintro e w2 ⟨rfl, hB2⟩; have hW2 : Below W'.heap.size W' w2 := bseq (Below.refl _ _).drew hB2))
      exact ⟨rfl, hW2⟩
    intro w2 hW2
    have c2 := (MK.out _ hW2).2.2.1
    have r1 : Box2 w2 (w.heap.size + 1) 47 (.int .i64 0) (.int .i64 0) := Box2.below hW2 H1.out
    have rK : w2.heap[D]? = some (.deferred (some [])) := (hW2.block D (Array.getElem?_eq_some_iff.1 HK.out).1).trans HK.out
    have rB : Below w.heap.size w w2 := HB.out.trans (hW2.mono HB.out.size)
    have d0 := celOf r1 0 _ rfl
    have d1 := r1.c1 (.int .i64 (k : Int))
    have g0 := frzOf r1 0
    have g1 := frzOf r1 1
    have R1 := hide r1
    have RK := hide rK
    have RB := hide rB
    clear r1 rK rB hW2
    gi_wp2
    have r1' := R1.out.set (.int .i64 (k : Int)) (.int .i64 v1)
    have rK' : ((w2.setCell ⟨w.heap.size + 1, 0, none⟩ (.int .i64 (k : Int))).setCell ⟨w.heap.size + 1, 1, none⟩ (.int .i64 v1)).heap[D]? = some (.deferred (some [])) := by
      rw [Below.heap_setCell _ _ _ _ (by show D ≠ w.heap.size + 1; omega), Below.heap_setCell _ _ _ _ (by show D ≠ w.heap.size + 1; omega)]
      exact RK.out
    have rB' : Below w.heap.size w ((w2.setCell ⟨w.heap.size + 1, 0, none⟩ (.int .i64 (k : Int))).setCell ⟨w.heap.size + 1, 1, none⟩ (.int .i64 v1)) := (RB.out.setCell (p := ⟨w.heap.size + 1, 0, none⟩) (Nat.le_add_right _ _) _).setCell (p := ⟨w.heap.size + 1, 1, none⟩) (Nat.le_add_right _ _) _
    refine ⟨by simp, .inl ⟨_, _, rfl, run_takeDeferred rK', ?_⟩⟩
    refine ⟨_, results_row_tmp' rfl _ _ (w.heap.size + 1) _ _ _ _ rfl (put_kept _ rK' r1' (by omega)) Try.underlying47 rfl (by kernel_rfl), ⟨k, x, HWA.out, by rw [HU.out]; exact t3, ?_⟩, rB'.trans (belowK_b (w := w) (Nat.le_refl _) _ D _ _ (by omega) rK' rfl rfl)⟩
    rw [HU.out, HT.out, HV1.out, HV2.out]
    rfl
  case hstop =>
    rintro D c pre W' hD hpre ⟨⟨⟨rfl, h0, h2⟩, h1, h3, h4⟩, ⟨q, x, rfl, hno, hlt⟩, hB⟩ hK
    obtain ⟨k, hk⟩ : ∃ k : Nat, k = q.length := ⟨_, rfl⟩
    have hfacts : WhereAt (bl s) n k x ∧ x.1 ≤ n ∧ x.1 ≤ x.2.1 ∧ x.2.1 + x.2.2 ≤ (bl s).length := by
      have hx : (Ls (bl s))[k]? = some x := by rw [hk]; exact (take_of_pre hpre).2
      have hpre' : ∀ j y, j < k → (Ls (bl s))[j]? = some y → y.2.1 + y.2.2 ≤ n := fun j y hj hy => by
        refine hno y (List.mem_of_getElem? (i := j) ?_)
        obtain ⟨r, hr⟩ := hpre
        rw [← hr, List.append_assoc, List.getElem?_append_left (by omega)] at hy
        exact hy
      exact ⟨⟨hx, hpre', .inl hlt⟩, Ls_from_le hx hpre', Ls_mem (List.mem_of_getElem? hx)⟩
    rw [lastL_snoc] at h3 h4
    rw [show ((((q ++ [x]).length : Nat) : Int) - 1) = (k : Int) by simp; omega] at h2
    clear hno hpre hlt hk
    obtain ⟨hWA, hx1, hmem⟩ := hfacts
    rw [bl_len] at hmem
    obtain ⟨t, ht⟩ : ∃ t, x.2.1 + x.2.2 = t := ⟨_, rfl⟩
    obtain ⟨u, hu⟩ : ∃ u, x.1 = u := ⟨_, rfl⟩
    rw [ht] at h4
    rw [hu] at h3
    have t1 : u ≤ t := by omega
    have t2 : t ≤ s.size := by omega
    have t3 : u ≤ n := by omega
    have t1' : (u : Int) ≤ (t : Int) := by omega
    have t2' : (t : Int) ≤ (s.size : Int) := by omega
    have t3' : (u : Int) ≤ (n : Int) := by omega
    have hwr : IntKind.i64.wrap ((n : Int) - (u : Int)) = (n : Int) - (u : Int) := by rw [IntKind.wrap_i64]; omega
    have HT := hide ht
    have HU := hide hu
    clear hmem hx1 ht hu
    have ko := fun w' => of_any (s.extract u t) ((n : Int) - (u : Int)) w' (by simp; omega)
    obtain ⟨v1, hv1⟩ : ∃ v1, (ofV (bl (s.extract u t)) ((n : Int) - (u : Int))).1 = v1 := ⟨_, rfl⟩
    obtain ⟨v2, hv2⟩ : ∃ v2, (ofV (bl (s.extract u t)) ((n : Int) - (u : Int))).2 = v2 := ⟨_, rfl⟩
    rw [hv1, hv2] at ko
    have HV1 := hide hv1
    have HV2 := hide hv2
    clear hv1 hv2
    have mk : ∀ W, Below W'.heap.size W' W → (Below W'.heap.size W' W ∧ W.cell? ⟨w.heap.size, 0, none⟩ = some (.int .i64 (n : Int)) ∧ W.cell? ⟨w.heap.size + 2, 0, none⟩ = some (.int .i64 (k : Int)) ∧ W.cell? ⟨w.heap.size + 3, 0, none⟩ = some (.int .i64 (u : Int)) ∧ W.cell? ⟨w.heap.size + 4, 0, none⟩ = some (.int .i64 (t : Int))) := fun W hB => ⟨hB, (below_boxed hB h0).cell, (below_boxed hB h2).cell, (below_boxed hB h3).cell, (below_boxed hB h4).cell⟩
    have KO := hide ko
    have MK := hide mk
    have H1 := hide h1
    have HB := hide hB
    have HK := hide hK
    have HWA := hide hWA
    clear ko mk h1 hB hWA hK h0 h2 h3 h4
    gi_wp2
    apply wp_meet (fun W2 => Below W'.heap.size W' W2)
    case h =>
      go_region_held3 (fun w' => Below W'.heap.size W' w' ∧ w'.cell? ⟨w.heap.size, 0, none⟩ = some (.int .i64 (n : Int)) ∧ w'.cell? ⟨w.heap.size + 2, 0, none⟩ = some (.int .i64 (k : Int)) ∧ w'.cell? ⟨w.heap.size + 3, 0, none⟩ = some (.int .i64 (u : Int)) ∧ w'.cell? ⟨w.heap.size + 4, 0, none⟩ = some (.int .i64 (t : Int))) (first | exact MK.out _ (Below.refl _ _).drew | exact MK.out _ hW2) (first | (go_at_call 36; refine (KO.out _).mono ?_; rintro e w2 ⟨rfl, hB2⟩; have hW2 : Below W'.heap.size W' w2 := bseq (Below.refl _ _).drew hB2))
      exact ⟨rfl, hW2⟩
    intro w2 hW2
    have c2 := (MK.out _ hW2).2.2.1
    have r1 : Box2 w2 (w.heap.size + 1) 47 (.int .i64 0) (.int .i64 0) := Box2.below hW2 H1.out
    have rK : w2.heap[D]? = some (.deferred (some [])) := (hW2.block D (Array.getElem?_eq_some_iff.1 HK.out).1).trans HK.out
    have rB : Below w.heap.size w w2 := HB.out.trans (hW2.mono HB.out.size)
    have d0 := celOf r1 0 _ rfl
    have d1 := r1.c1 (.int .i64 (k : Int))
    have g0 := frzOf r1 0
    have g1 := frzOf r1 1
    have R1 := hide r1
    have RK := hide rK
    have RB := hide rB
    clear r1 rK rB hW2
    gi_wp2
    have r1' := R1.out.set (.int .i64 (k : Int)) (.int .i64 v1)
    have rK' : ((w2.setCell ⟨w.heap.size + 1, 0, none⟩ (.int .i64 (k : Int))).setCell ⟨w.heap.size + 1, 1, none⟩ (.int .i64 v1)).heap[D]? = some (.deferred (some [])) := by
      rw [Below.heap_setCell _ _ _ _ (by show D ≠ w.heap.size + 1; omega), Below.heap_setCell _ _ _ _ (by show D ≠ w.heap.size + 1; omega)]
      exact RK.out
    have rB' : Below w.heap.size w ((w2.setCell ⟨w.heap.size + 1, 0, none⟩ (.int .i64 (k : Int))).setCell ⟨w.heap.size + 1, 1, none⟩ (.int .i64 v1)) := (RB.out.setCell (p := ⟨w.heap.size + 1, 0, none⟩) (Nat.le_add_right _ _) _).setCell (p := ⟨w.heap.size + 1, 1, none⟩) (Nat.le_add_right _ _) _
    refine ⟨by simp, .inl ⟨_, _, rfl, run_takeDeferred rK', ?_⟩⟩
    refine ⟨_, results_row_tmp' rfl _ _ (w.heap.size + 1) _ _ _ _ rfl (put_kept _ rK' r1' (by omega)) Try.underlying47 rfl (by kernel_rfl), ⟨k, x, HWA.out, by rw [HU.out]; exact t3, ?_⟩, rB'.trans (belowK_b (w := w) (Nat.le_refl _) _ D _ _ (by omega) rK' rfl rfl)⟩
    rw [HU.out, HT.out, HV1.out, HV2.out]
    rfl
end Go.Proofs.Ytegplcomhahpfaa
