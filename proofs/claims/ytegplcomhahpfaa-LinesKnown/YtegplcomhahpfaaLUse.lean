/- What lines.Count, lines.Line, lines.Where and lines.Place answer. -/
import Derived.Test.YtegplcomhahpfaaLLines
namespace Go.Proofs.Ytegplcomhahpfaa
open Go.RowKit Go.Shelf
set_option linter.unusedVariables false
attribute [local go_sem] Oper.semAt_some

theorem take_of_pre {α : Type} {pre xs : List α} {x : α} (h : pre ++ [x] <+: xs) : pre.length < xs.length ∧ xs[pre.length]? = some x := by
  have hl := h.length_le
  simp only [List.length_append, List.length_singleton] at hl
  refine ⟨by omega, ?_⟩
  have h2 := List.prefix_iff_eq_take.1 h
  have h3 : (pre ++ [x])[pre.length]? = some x := by simp
  rw [h2, List.getElem?_take] at h3
  simp only [List.length_append, List.length_singleton] at h3
  rwa [if_pos (by omega)] at h3

theorem celOf {w : World} {B : Nat} {cs : Array Value} {t : TypeId} (h : w.heap[B]? = some (.cells cs t (0, 0))) (i : Nat) (v : Value) (hv : cs[i]? = some v) : w.cell? ⟨B, i, none⟩ = some v := by
  simp only [World.cell?, h]
  exact hv
theorem frzOf {w : World} {B : Nat} {cs : Array Value} {t : TypeId} (h : w.heap[B]? = some (.cells cs t (0, 0))) (i : Nat) : w.frozen? ⟨B, i, none⟩ = false := by
  simp only [World.frozen?, h]
  simp
/-- A variable of two cells. -/
def Box2 (W : World) (B : Nat) (t : TypeId) (v0 v1 : Value) : Prop := W.heap[B]? = some (.cells #[v0, v1] t (0, 0))
theorem Box2.set {W : World} {B : Nat} {t : TypeId} {a0 a1 : Value} (h : Box2 W B t a0 a1) (v0 v1 : Value) : Box2 ((W.setCell ⟨B, 0, none⟩ v0).setCell ⟨B, 1, none⟩ v1) B t v0 v1 := by
  have R1 := heap_setCell_same W B 0 _ _ v0 h
  exact heap_setCell_same _ B 1 _ _ v1 R1
theorem Box2.c1 {W : World} {B : Nat} {t : TypeId} {a0 a1 : Value} (h : Box2 W B t a0 a1) (v0 : Value) : (W.setCell ⟨B, 0, none⟩ v0).cell? ⟨B, 1, none⟩ = some a1 := celOf (heap_setCell_same W B 0 _ _ v0 h) 1 _ rfl
theorem Box2.other {W : World} {B b o : Nat} {t : TypeId} {a0 a1 : Value} (h : Box2 W B t a0 a1) (hne : B ≠ b) (v : Value) : Box2 (W.setCell ⟨b, o, none⟩ v) B t a0 a1 := (Below.heap_setCell W ⟨b, o, none⟩ v B hne).trans h
theorem oth {W : World} {B b o : Nat} {t : TypeId} {a : Value} (h : Boxed W B t a) (hne : B ≠ b) (v : Value) : Boxed (W.setCell ⟨b, o, none⟩ v) B t a := (Below.heap_setCell W ⟨b, o, none⟩ v B hne).trans h
theorem Box2.below {W W' : World} {b : Nat} {t : TypeId} {v u : Value} (h : Below W.heap.size W W') (hb : Box2 W b t v u) : Box2 W' b t v u :=
  (h.block b (Array.getElem?_eq_some_iff.1 (show W.heap[b]? = _ from hb)).1).trans hb
theorem Stab.box2 {β : Type} {H : TypeId → Prop} {B b : Nat} (t : TypeId) (v0 v1 : Value) (hb : b < B) : Stab H B (fun (_ : β) W => Box2 W b t v0 v1) := fun s W W' hJ hs => hs.2 b _ hJ (.inl hb)
theorem Kp.set' {H : TypeId → Prop} {N : Nat → Prop} {B b o : Nat} {W : World} (u : Value) (hn : ¬ N b) (hB : b < B) : Kp H N B W (W.setCell ⟨b, o, none⟩ u) := by
  refine ⟨⟨rfl, rfl, rfl, by simp [World.setCell]⟩, fun k o2 hk hc => ?_⟩
  refine (Below.heap_setCell W ⟨b, o, none⟩ u k (fun e => ?_)).trans hk
  have e' : k = b := e
  subst e'
  rcases hc with h1 | h1
  · exact hn h1
  · omega
/-- What a function answers whose three results lie in variables of its own. -/
theorem results_row_cells {P : Program} {fn : Func} {p q u : Tmp} {ty ty1 ty2 : TypeId} (h : fn.results = #[.cell p ty, .cell q ty1, .cell u ty2]) (tmps : Array Value) (w : World) (g g1 g2 : Nat) (t t1 t2 : TypeId) (v0 v1 v2 v3 : Value) (d : TypeDesc)
    (hp : tmps.getD p undef = .pointer (some ⟨g, 0, none⟩)) (hq : tmps.getD q undef = .pointer (some ⟨g1, 0, none⟩)) (hu' : tmps.getD u undef = .pointer (some ⟨g2, 0, none⟩)) (hg : Box2 w g t v0 v1) (hg1 : Boxed w g1 t1 v2) (hg2 : Boxed w g2 t2 v3)
    (hu : P.underlying ty = some d) (hd : (match d with | .struct _ | .array _ _ => true | _ => false) = true) (hi : (P.info? ty).map (·.size) = some 2)
    (h1 : ∀ w' : World, w'.cell? ⟨g1, 0, none⟩ = some v2 → (loadVar ty1 ⟨g1, 0, none⟩).run P w' = .ok v2 w') (h2 : ∀ w' : World, w'.cell? ⟨g2, 0, none⟩ = some v3 → (loadVar ty2 ⟨g2, 0, none⟩).run P w' = .ok v3 w') :
    (results fn tmps).run P w = .ok (.tuple #[.agg #[v0, v1], v2, v3]) w := by
  have hp' : tmps[p]?.getD undef = .pointer (some ⟨g, 0, none⟩) := by simpa using hp
  have hq' : tmps[q]?.getD undef = .pointer (some ⟨g1, 0, none⟩) := by simpa using hq
  have hu'' : tmps[u]?.getD undef = .pointer (some ⟨g2, 0, none⟩) := by simpa using hu'
  have e1 := h1 w hg1.cell
  have e2 := h2 w hg2.cell
  simp [results, h, hp', hq', hu'', asAddr, run_loadVar_row w g t ty #[v0, v1] (0, 0) d hg hu hd hi, e1, e2, Sem.run_bind, Result.andThen]

theorem load_int {w : World} {g : Nat} {v : Value} (h : w.cell? ⟨g, 0, none⟩ = some v) : (loadVar 3 ⟨g, 0, none⟩).run Try.prog w = .ok v w := by
  simp [loadVar, Sem.run_bind, Try.isAgg3, h, go_sem]
theorem load_err {w : World} {g : Nat} {v : Value} (h : w.cell? ⟨g, 0, none⟩ = some v) : (loadVar 29 ⟨g, 0, none⟩).run Try.prog w = .ok v w := by
  simp [loadVar, Sem.run_bind, Try.isAgg29, h, go_sem]
theorem put_kept {W : World} {D b : Nat} {o o1 : Obj} (o' : Obj) (hK : W.heap[D]? = some o) (hb : W.heap[b]? = some o1) (hne : b ≠ D) : (W.putObj D o').heap[b]? = some o1 := (World.putObj_heap_other hne).trans hb

set_option maxRecDepth 100000 in
set_option maxHeartbeats 2000000 in
theorem lcount_any (s : ByteArray) (w : World) (hs : s.size ≤ 4611686018427387904) :
    Calls Try.prog 8 #[.string s] w fun e w' => e = .returned (.int .i64 ((Ls (bl s)).length : Int)) ∧ Below w.heap.size w w' := by
  have hll := Ls_len (bl s)
  rw [bl_len] at hll
  refine (callsIn_wide (n := 3)).1 ?_
  refine callsIn_of_wp_marks Try.func8 rfl trivial ?_ rfl
  simp only [Try.ntmps8, List.size_toArray, List.length_cons, List.length_nil, Nat.reduceAdd, Nat.reduceSub, Array.replicate_succ, Array.replicate_zero, List.push_toArray, List.append_toArray, List.nil_append, List.cons_append]
  gi_wp2_with (refine ⟨trivial, ?_⟩; gi_at_call 23; refine (lall_in s _).mono ?_; rintro e w' ⟨rfl, rfl⟩)
  have bN := (Boxed.new w 3 (.int .i64 0)).alloc (.cells #[.string s] 9)
  have bS := Boxed.new (w.alloc (.cells #[.int .i64 0] 3)) 9 (.string s)
  have hB0 : Below w.heap.size w ((w.alloc (.cells #[.int .i64 0] 3)).alloc (.cells #[.string s] 9)) := ((Below.refl _ w).alloc (Nat.le_refl _) _).alloc (by simp) _
  have hsz : ((w.alloc (.cells #[.int .i64 0] 3)).alloc (.cells #[.string s] 9)).heap.size = w.heap.size + 2 := by simp
  simp only [World.size_alloc] at bS
  obtain ⟨W0, hW0⟩ : ∃ W0, ((w.alloc (.cells #[.int .i64 0] 3)).alloc (.cells #[.string s] 9)) = W0 := ⟨_, rfl⟩
  rw [hW0] at bN bS hB0 hsz ⊢
  clear hW0
  apply rangeX (gf := 32) (lb := #[.pointer (some ⟨w.heap.size + 1, 0, none⟩)]) (encs := encL) rfl (enters_of Try.func32 (by kernel_rfl) rfl)
    (lall_x (fun _ => False) (fun k => k = w.heap.size + 1) (w.heap.size + 1) s W0 (by omega) rfl (fun k h => by omega) bS.cell id id) (Below.refl _ _) (fun k h => by omega) (fun _ => rfl)
    (fun pre W' => Boxed W' w.heap.size 3 (.int .i64 ((pre.length : Nat) : Int)) ∧ Below w.heap.size w W')
    (fun c pre W' => False)
    (Stab.and (Stab.boxed _ _ (by omega)) (Stab.below (by omega) (Nat.le_refl _)))
    (fun c => Stab.pure _)
    ⟨bN, hB0⟩
  case hassign =>
    intro l' x W' K hK
    simp only [encL]
    gi_wp2
    exact hK
  case hbody =>
    rintro l' pre x W' ⟨hbN, hB⟩ hpx
    obtain ⟨h1, h2⟩ := take_of_pre hpx
    have hcN := hbN.cell
    have hfN := hbN.frozen
    have HBN := hide hbN
    have HB := hide hB
    clear hbN hB hpx h2
    gi_wp2
    refine ⟨Kp.set _ (fun h => by omega) (by omega), ?_, HB.out.setCell (p := ⟨w.heap.size, 0, none⟩) (Nat.le_refl _) _⟩
    have h := HBN.out.set (.int .i64 ((pre.length : Int) + 1))
    simpa using h
  case hdone =>
    rintro D W2 hD ⟨hbN, hB⟩ hK
    have hcN := hbN.cell
    have HB := hide hB
    clear hB
    gi_wp2
    refine ⟨by simp, .inl ⟨_, _, rfl, run_takeDeferred hK, ?_⟩⟩
    refine ⟨_, results_tmp rfl _ _ _, rfl, HB.out.trans (belowK_b (w := w) (Nat.le_refl _) W2 D _ _ (by omega) hK rfl rfl)⟩
  case hstop =>
    rintro D c pre W2 hD _ h hK
    exact h.elim

/-- The answer of Line. -/
def lineV (l : List UInt8) (n : Int) : (Int × Int) × Int × Int := if 0 ≤ n ∧ n < ((Ls l).length : Int) then (match (Ls l)[n.toNat]? with | some x => (((x.1 : Int), (x.2.1 : Int)), (x.2.2 : Int), 0) | none => ((0, 0), 0, 6)) else ((0, 0), 0, 6)
def encLV (v : (Int × Int) × Int × Int) : Value := .tuple #[.agg #[.int .i64 v.1.1, .int .i64 v.1.2], .int .i64 v.2.1, .int .i64 v.2.2]

set_option maxRecDepth 100000 in
set_option maxHeartbeats 2000000 in
theorem lline_any (s : ByteArray) (n : Int) (w : World) (hs : s.size ≤ 4611686018427387904) :
    Calls Try.prog 11 #[.string s, .int .i64 n] w fun e w' => e = .returned (encLV (lineV (bl s) n)) ∧ Below w.heap.size w w' := by
  have hll := Ls_len (bl s)
  rw [bl_len] at hll
  refine (callsIn_wide (n := 3)).1 ?_
  refine callsIn_of_wp_marks Try.func11 rfl trivial ?_ rfl
  simp only [Try.ntmps11, List.size_toArray, List.length_cons, List.length_nil, Nat.reduceAdd, Nat.reduceSub, Array.replicate_succ, Array.replicate_zero, List.push_toArray, List.append_toArray, List.nil_append, List.cons_append]
  gi_wp2_with (refine ⟨trivial, ?_⟩; gi_at_call 23; refine (lall_in s _).mono ?_; rintro e w' ⟨rfl, rfl⟩)
  have b0 := ((((((Boxed.new w 3 (.int .i64 n)).alloc (.cells #[.int .i64 0, .int .i64 0] 28)).alloc (.cells #[.int .i64 0] 3)).alloc (.cells #[.int .i64 0] 29)).alloc (.cells #[.int .i64 0] 3)).alloc (.cells #[.string s] 9))
  have b1 : Box2 (((((w.alloc (.cells #[.int .i64 n] 3)).alloc (.cells #[.int .i64 0, .int .i64 0] 28)).alloc (.cells #[.int .i64 0] 3)).alloc (.cells #[.int .i64 0] 29)).alloc (.cells #[.int .i64 0] 3) |>.alloc (.cells #[.string s] 9)) (w.heap.size + 1) 28 (.int .i64 0) (.int .i64 0) := by
    have h : Box2 ((w.alloc (.cells #[.int .i64 n] 3)).alloc (.cells #[.int .i64 0, .int .i64 0] 28)) (w.heap.size + 1) 28 (.int .i64 0) (.int .i64 0) := heap_alloc2_new _ _ _
    exact ((((h.below ((Below.refl _ _).alloc (Nat.le_refl _) _)).below ((Below.refl _ _).alloc (Nat.le_refl _) _)).below ((Below.refl _ _).alloc (Nat.le_refl _) _)).below ((Below.refl _ _).alloc (Nat.le_refl _) _))
  have b2 := (((Boxed.new ((w.alloc (.cells #[.int .i64 n] 3)).alloc (.cells #[.int .i64 0, .int .i64 0] 28)) 3 (.int .i64 0)).alloc (.cells #[.int .i64 0] 29)).alloc (.cells #[.int .i64 0] 3)).alloc (.cells #[.string s] 9)
  have b3 := ((Boxed.new (((w.alloc (.cells #[.int .i64 n] 3)).alloc (.cells #[.int .i64 0, .int .i64 0] 28)).alloc (.cells #[.int .i64 0] 3)) 29 (.int .i64 0)).alloc (.cells #[.int .i64 0] 3)).alloc (.cells #[.string s] 9)
  have b4 := (Boxed.new ((((w.alloc (.cells #[.int .i64 n] 3)).alloc (.cells #[.int .i64 0, .int .i64 0] 28)).alloc (.cells #[.int .i64 0] 3)).alloc (.cells #[.int .i64 0] 29)) 3 (.int .i64 0)).alloc (.cells #[.string s] 9)
  have b5 := Boxed.new (((((w.alloc (.cells #[.int .i64 n] 3)).alloc (.cells #[.int .i64 0, .int .i64 0] 28)).alloc (.cells #[.int .i64 0] 3)).alloc (.cells #[.int .i64 0] 29)).alloc (.cells #[.int .i64 0] 3)) 9 (.string s)
  have hB0 : Below w.heap.size w ((((((w.alloc (.cells #[.int .i64 n] 3)).alloc (.cells #[.int .i64 0, .int .i64 0] 28)).alloc (.cells #[.int .i64 0] 3)).alloc (.cells #[.int .i64 0] 29)).alloc (.cells #[.int .i64 0] 3)).alloc (.cells #[.string s] 9)) :=
    ((((((Below.refl _ w).alloc (Nat.le_refl _) _).alloc (by simp) _).alloc (by simp; omega) _).alloc (by simp; omega) _).alloc (by simp; omega) _).alloc (by simp; omega) _
  have hsz : ((((((w.alloc (.cells #[.int .i64 n] 3)).alloc (.cells #[.int .i64 0, .int .i64 0] 28)).alloc (.cells #[.int .i64 0] 3)).alloc (.cells #[.int .i64 0] 29)).alloc (.cells #[.int .i64 0] 3)).alloc (.cells #[.string s] 9)).heap.size = w.heap.size + 6 := by simp
  simp only [World.size_alloc] at b2 b3 b4 b5
  obtain ⟨W0, hW0⟩ : ∃ W0, ((((((w.alloc (.cells #[.int .i64 n] 3)).alloc (.cells #[.int .i64 0, .int .i64 0] 28)).alloc (.cells #[.int .i64 0] 3)).alloc (.cells #[.int .i64 0] 29)).alloc (.cells #[.int .i64 0] 3)).alloc (.cells #[.string s] 9)) = W0 := ⟨_, rfl⟩
  rw [hW0] at b0 b1 b2 b3 b4 b5 hB0 hsz ⊢
  clear hW0
  simp only [Nat.add_assoc, Nat.reduceAdd] at b0 b1 b2 b3 b4 b5 ⊢
  apply rangeP (gf := 32) (lb := #[.pointer (some ⟨w.heap.size + 5, 0, none⟩)]) (encs := encL) rfl (enters_of Try.func32 (by kernel_rfl) rfl)
    (lall_x (fun _ => False) (fun k => k = w.heap.size + 5) (w.heap.size + 5) s W0 (by omega) rfl (fun k h => by omega) b5.cell id id) (Below.refl _ _) (fun k h => by omega) (fun _ => rfl)
    (fun pre W' => ((Boxed W' w.heap.size 3 (.int .i64 n) ∧ Boxed W' (w.heap.size + 4) 3 (.int .i64 ((pre.length : Nat) : Int))) ∧ (Box2 W' (w.heap.size + 1) 28 (.int .i64 0) (.int .i64 0) ∧ (Boxed W' (w.heap.size + 2) 3 (.int .i64 0) ∧ Boxed W' (w.heap.size + 3) 29 (.int .i64 0)))) ∧ ((∀ j : Nat, j < pre.length → (j : Int) ≠ n) ∧ (W0.heap.size ≤ W'.heap.size ∧ Below w.heap.size w W')))
    (fun c pre W' => (c = .ret ∧ (Box2 W' (w.heap.size + 1) 28 (.int .i64 (lineV (bl s) n).1.1) (.int .i64 (lineV (bl s) n).1.2) ∧ (Boxed W' (w.heap.size + 2) 3 (.int .i64 (lineV (bl s) n).2.1) ∧ Boxed W' (w.heap.size + 3) 29 (.int .i64 (lineV (bl s) n).2.2)))) ∧ Below w.heap.size w W')
    (Stab.and (Stab.and (Stab.and (Stab.box _ _ (by omega)) (Stab.boxed _ _ (by omega))) (Stab.and (Stab.box2 _ _ _ (by omega)) (Stab.and (Stab.box _ _ (by omega)) (Stab.box _ _ (by omega))))) (Stab.and (Stab.pure _) (Stab.and (fun s A B h hs => Nat.le_trans h hs.1.2.2.2) (Stab.below (by omega) (by omega)))))
    (fun c => Stab.and (Stab.and (Stab.pure _) (Stab.and (Stab.box2 _ _ _ (by omega)) (Stab.and (Stab.box _ _ (by omega)) (Stab.box _ _ (by omega))))) (Stab.below (by omega) (by omega)))
    ⟨⟨⟨b0, b4⟩, b1, b2, b3⟩, fun j h => by simp at h, Nat.le_refl _, hB0⟩ (fun x => #[.int .i64 (x.1 : Int), .int .i64 (x.2.1 : Int)]) 28
  case hsize => exact fun s W h => h.2.2.1
  case hassign =>
    intro l' x W' K hK
    simp only [encL]
    gi_wp2
    exact hK _ ((Below.refl _ _).alloc (Nat.le_refl _) _) (heap_alloc_new _ _)
  case hbody =>
    rintro l' pre x Wb W' ⟨⟨⟨h0, h4⟩, h1, h2, h3⟩, hno, hsz', hB⟩ hWb hpc hpx
    obtain ⟨hpl, hget⟩ := take_of_pre hpx
    have hP : Box2 W' Wb.heap.size 28 (.int .i64 (x.1 : Int)) (.int .i64 (x.2.1 : Int)) := hpc
    have HPC := hide hP
    have c0 := h0.cell
    have c4 := h4.cell
    have f4 := h4.frozen
    have p0 := celOf hpc 0 _ rfl
    have p1 := celOf hpc 1 _ rfl
    have k0 := celOf h1 0 _ rfl
    have k1 := h1.c1 (.int .i64 (x.1 : Int))
    have g0 := frzOf h1 0
    have g1 := frzOf h1 1
    have k2 := (oth (oth h2 (b := w.heap.size + 1) (o := 0) (by omega) (.int .i64 (x.1 : Int))) (b := w.heap.size + 1) (o := 1) (by omega) (.int .i64 (x.2.1 : Int))).cell
    have g2 := h2.frozen
    have k3 := (oth (oth (oth h3 (b := w.heap.size + 1) (o := 0) (by omega) (.int .i64 (x.1 : Int))) (b := w.heap.size + 1) (o := 1) (by omega) (.int .i64 (x.2.1 : Int))) (b := w.heap.size + 2) (o := 0) (by omega) (.int .i64 (x.2.2 : Int))).cell
    have g3 := h3.frozen
    have H0 := hide h0
    have H1 := hide h1
    have H2 := hide h2
    have H3 := hide h3
    have H4 := hide h4
    have HB := hide hB
    have HNO := hide hno
    have HG := hide hget
    have HSZ := hide hsz'
    clear h0 h1 h2 h3 h4 hB hno hget hpx hpc hP hsz'
    by_cases hn : (pre.length : Int) = n
    · have hb : ((pre.length : Int) == n) = true := by simp [hn]
      have HN := hide hn
      clear hn
      gi_wp2
      have hv : lineV (bl s) n = (((x.1 : Int), (x.2.1 : Int)), (x.2.2 : Int), 0) := by
        have h1 := HN.out
        unfold lineV
        rw [if_pos ⟨by omega, by omega⟩, show n.toNat = pre.length by omega, HG.out]
      rw [hv]
      refine ⟨((((Kp.set' (o := 0) _ (fun h => ?_) ?_).trans (Kp.set' (o := 1) _ (fun h => ?_) ?_)).trans (Kp.set' (o := 0) _ (fun h => ?_) ?_)).trans (Kp.set' (o := 0) _ (fun h => ?_) ?_)), ⟨rfl, ((H1.out.set _ _).other (o := 0) ?_ _).other (o := 0) ?_ _, oth (o := 0) ((oth (o := 1) (oth (o := 0) H2.out ?_ _) ?_ _).set _) ?_ _, (oth (o := 0) (oth (o := 1) (oth (o := 0) H3.out ?_ _) ?_ _) ?_ _).set _⟩, (((HB.out.setCell (p := ⟨w.heap.size + 1, 0, none⟩) ?_ _).setCell (p := ⟨w.heap.size + 1, 1, none⟩) ?_ _).setCell (p := ⟨w.heap.size + 2, 0, none⟩) ?_ _).setCell (p := ⟨w.heap.size + 3, 0, none⟩) ?_ _⟩
      all_goals first | omega | exact Nat.le_add_right _ _
    · have hb : ((pre.length : Int) == n) = false := by simp [hn]
      have HN := hide hn
      clear hn
      gi_wp2
      refine ⟨Kp.set _ (fun h => by omega) (by omega), ⟨⟨H0.out.other (by omega) _, ?_⟩, H1.out.other (by omega) _, H2.out.other (by omega) _, H3.out.other (by omega) _⟩, ?_, ?_, HB.out.setCell (p := ⟨w.heap.size + 4, 0, none⟩) (Nat.le_add_right _ _) _⟩
      · have h := H4.out.set (.int .i64 ((pre.length : Int) + 1))
        simpa using h
      · intro j hj
        simp at hj
        by_cases e : j = pre.length
        · rw [e]; exact HN.out
        · exact HNO.out j (by omega)
      · simpa [World.setCell] using HSZ.out
  case hdone =>
    rintro D W' hD ⟨⟨⟨h0, h4⟩, h1, h2, h3⟩, hno, hsz', hB⟩ hK
    have hv : lineV (bl s) n = ((0, 0), 0, 6) := by
      unfold lineV
      rw [if_neg]
      rintro ⟨g1, g2⟩
      exact hno n.toNat (by omega) (by omega)
    have HV := hide hv
    have k0 := celOf h1 0 _ rfl
    have k1 := h1.c1 (.int .i64 0)
    have g0 := frzOf h1 0
    have g1 := frzOf h1 1
    have k2 := (oth (oth h2 (b := w.heap.size + 1) (o := 0) (by omega) (.int .i64 0)) (b := w.heap.size + 1) (o := 1) (by omega) (.int .i64 0)).cell
    have g2 := h2.frozen
    have k3 := (oth (oth (oth h3 (b := w.heap.size + 1) (o := 0) (by omega) (.int .i64 0)) (b := w.heap.size + 1) (o := 1) (by omega) (.int .i64 0)) (b := w.heap.size + 2) (o := 0) (by omega) (.int .i64 0)).cell
    have g3 := h3.frozen
    have H1 := hide h1
    have H2 := hide h2
    have H3 := hide h3
    have HB := hide hB
    have HK := hide hK
    clear h0 h1 h2 h3 h4 hB hno hK hsz' hv
    gi_wp2
    have hK' : ((((W'.setCell ⟨w.heap.size + 1, 0, none⟩ (.int .i64 0)).setCell ⟨w.heap.size + 1, 1, none⟩ (.int .i64 0)).setCell ⟨w.heap.size + 2, 0, none⟩ (.int .i64 0)).setCell ⟨w.heap.size + 3, 0, none⟩ (.int .i64 6)).heap[D]? = some (.deferred (some [])) := by
      rw [Below.heap_setCell _ _ _ _ (by show D ≠ w.heap.size + 3; omega), Below.heap_setCell _ _ _ _ (by show D ≠ w.heap.size + 2; omega), Below.heap_setCell _ _ _ _ (by show D ≠ w.heap.size + 1; omega), Below.heap_setCell _ _ _ _ (by show D ≠ w.heap.size + 1; omega)]
      exact HK.out
    have q1 : Box2 ((((W'.setCell ⟨w.heap.size + 1, 0, none⟩ (.int .i64 0)).setCell ⟨w.heap.size + 1, 1, none⟩ (.int .i64 0)).setCell ⟨w.heap.size + 2, 0, none⟩ (.int .i64 0)).setCell ⟨w.heap.size + 3, 0, none⟩ (.int .i64 6)) (w.heap.size + 1) 28 (.int .i64 0) (.int .i64 0) := ((H1.out.set _ _).other (o := 0) (by omega) _).other (o := 0) (by omega) _
    have q2 : Boxed ((((W'.setCell ⟨w.heap.size + 1, 0, none⟩ (.int .i64 0)).setCell ⟨w.heap.size + 1, 1, none⟩ (.int .i64 0)).setCell ⟨w.heap.size + 2, 0, none⟩ (.int .i64 0)).setCell ⟨w.heap.size + 3, 0, none⟩ (.int .i64 6)) (w.heap.size + 2) 3 (.int .i64 0) := oth (o := 0) ((oth (o := 1) (oth (o := 0) H2.out (by omega) _) (by omega) _).set _) (by omega) _
    have q3 : Boxed ((((W'.setCell ⟨w.heap.size + 1, 0, none⟩ (.int .i64 0)).setCell ⟨w.heap.size + 1, 1, none⟩ (.int .i64 0)).setCell ⟨w.heap.size + 2, 0, none⟩ (.int .i64 0)).setCell ⟨w.heap.size + 3, 0, none⟩ (.int .i64 6)) (w.heap.size + 3) 29 (.int .i64 6) := (oth (o := 0) (oth (o := 1) (oth (o := 0) H3.out (by omega) _) (by omega) _) (by omega) _).set _
    have qB : Below w.heap.size w ((((W'.setCell ⟨w.heap.size + 1, 0, none⟩ (.int .i64 0)).setCell ⟨w.heap.size + 1, 1, none⟩ (.int .i64 0)).setCell ⟨w.heap.size + 2, 0, none⟩ (.int .i64 0)).setCell ⟨w.heap.size + 3, 0, none⟩ (.int .i64 6)) := (((HB.out.setCell (p := ⟨w.heap.size + 1, 0, none⟩) (Nat.le_add_right _ _) _).setCell (p := ⟨w.heap.size + 1, 1, none⟩) (Nat.le_add_right _ _) _).setCell (p := ⟨w.heap.size + 2, 0, none⟩) (Nat.le_add_right _ _) _).setCell (p := ⟨w.heap.size + 3, 0, none⟩) (Nat.le_add_right _ _) _
    refine ⟨by simp, .inl ⟨_, _, rfl, run_takeDeferred hK', ?_⟩⟩
    refine ⟨_, results_row_cells rfl _ _ (w.heap.size + 1) (w.heap.size + 2) (w.heap.size + 3) _ _ _ _ _ _ _ _ rfl rfl rfl (put_kept _ hK' q1 (by omega)) (put_kept _ hK' q2 (by omega)) (put_kept _ hK' q3 (by omega)) Try.underlying28 rfl (by kernel_rfl) (fun _ h => load_int h) (fun _ h => load_err h), ?_, qB.trans (belowK_b (w := w) (Nat.le_refl _) _ D _ _ (by omega) hK' rfl rfl)⟩
    rw [HV.out]
    rfl
  case hstop =>
    rintro D c pre W' hD _ ⟨⟨rfl, h1, h2, h3⟩, hB⟩ hK
    have H1 := hide h1
    have H2 := hide h2
    have H3 := hide h3
    have HB := hide hB
    clear h1 h2 h3 hB
    gi_wp2
    refine ⟨by simp, .inl ⟨_, _, rfl, run_takeDeferred hK, ?_⟩⟩
    refine ⟨_, results_row_cells rfl _ _ (w.heap.size + 1) (w.heap.size + 2) (w.heap.size + 3) _ _ _ _ _ _ _ _ rfl rfl rfl (put_kept _ hK H1.out (by omega)) (put_kept _ hK H2.out (by omega)) (put_kept _ hK H3.out (by omega)) Try.underlying28 rfl (by kernel_rfl) (fun _ h => load_int h) (fun _ h => load_err h), rfl, HB.out.trans (belowK_b (w := w) (Nat.le_refl _) _ D _ _ (by omega) hK rfl rfl)⟩
end Go.Proofs.Ytegplcomhahpfaa
