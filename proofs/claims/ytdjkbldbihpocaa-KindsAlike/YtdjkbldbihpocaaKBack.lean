/- What kinds.Back answers. -/
import Derived.Test.YtdjkbldbihpocaaKNext
namespace Go.Proofs.Ytdjkbldbihpocaa
open Go.RowKit Go.Shelf
set_option linter.unusedVariables false
attribute [local go_sem] Oper.semAt_some

/-- From behind: where the class changes, and is no blank's behind it. -/
def bck (stop : Nat) (b : Int) : List (Nat × Nat × Nat) → Nat
  | [] => 0
  | e :: t => if b ≠ 1 ∧ b ≠ clsK (e.2.1 : Int) then stop else bck e.1 (clsK (e.2.1 : Int)) t
def backP (l : List UInt8) (p : Nat) : Nat := bck 0 1 (Cs 0 (l.take p)).reverse
def backV (l : List UInt8) (n : Int) : Nat := backP l (intoV l n)
/-- Where the walk stands behind some characters. -/
def bst (l : List (Nat × Nat × Nat)) : Nat × Int := match l.getLast? with
  | none => (0, 1)
  | some e => (e.1, clsK (e.2.1 : Int))
theorem bst_snoc (l : List (Nat × Nat × Nat)) (e : Nat × Nat × Nat) : bst (l ++ [e]) = (e.1, clsK (e.2.1 : Int)) := by unfold bst; simp
theorem results_box {P : Program} {fn : Func} {p : Tmp} {ty : TypeId} (h : fn.results = #[.cell p ty]) (tmps : Array Value) (w : World) (g : Nat) (t : TypeId) (v : Value)
    (hp : tmps.getD p undef = .pointer (some ⟨g, 0, none⟩)) (hg : Boxed w g t v) (h1 : ∀ w' : World, w'.cell? ⟨g, 0, none⟩ = some v → (loadVar ty ⟨g, 0, none⟩).run P w' = .ok v w') :
    (results fn tmps).run P w = .ok v w := by
  have hp' : tmps[p]?.getD undef = .pointer (some ⟨g, 0, none⟩) := by simpa using hp
  have e1 := h1 w hg.cell
  simp [results, h, hp', asAddr, e1]
theorem loadK {w : World} {g : Nat} {v : Value} (h : w.cell? ⟨g, 0, none⟩ = some v) : (loadVar 3 ⟨g, 0, none⟩).run Try.prog w = .ok v w := by
  simp [loadVar, Sem.run_bind, Try.isAgg3, h, go_sem]
theorem put_kept' {W : World} {D b : Nat} {o o1 : Obj} (o' : Obj) (hK : W.heap[D]? = some o) (hb : W.heap[b]? = some o1) (hne : b ≠ D) : (W.putObj D o').heap[b]? = some o1 := (World.putObj_heap_other hne).trans hb
theorem boxLow {W W' : World} {b n : Nat} {t : TypeId} {v : Value} (h : Boxed W b t v) (hB : Below n W W') (hb : b < n) : Boxed W' b t v := (hB.block b hb).trans h

set_option maxHeartbeats 2000000 in
theorem kback_any (s : ByteArray) (n : Int) (w : World) (hs : s.size ≤ 9223372036854775807) :
    Calls Try.prog 14 #[.string s, .int .i64 n] w fun e w' => e = .returned (.int .i64 (backV (bl s) n : Nat)) ∧ Below w.heap.size w w' := by
  have hi := into_le (bl s) n
  rw [bl_len] at hi
  have ki := fun w => into_any s n w hs
  have hv : backV (bl s) n = backP (bl s) (intoV (bl s) n) := rfl
  rw [hv]
  clear hv
  generalize intoV (bl s) n = p at *
  have hpI : (p : Int) ≤ (s.size : Int) := by omega
  have e' : bl (s.extract 0 p) = (bl s).take p := bl_to s p
  unfold backP
  rw [← e']
  have hsz : (s.extract 0 p).size ≤ 9223372036854775807 := by simp; omega
  obtain ⟨t, ht⟩ : ∃ t, s.extract 0 p = t := ⟨_, rfl⟩
  rw [ht] at hsz ⊢
  obtain ⟨R, hR⟩ : ∃ R, bck 0 1 (Cs 0 (bl t)).reverse = R := ⟨_, rfl⟩
  rw [hR]
  have HR0 := hide hR
  clear hR
  have KI := hide ki
  clear ki e'
  refine (callsIn_wide (n := 3)).1 ?_
  refine callsIn_of_wp_marks Try.func14 rfl trivial ?_ rfl
  simp only [Try.ntmps14, List.size_toArray, List.length_cons, List.length_nil, Nat.reduceAdd, Nat.reduceSub, Array.replicate_succ, Array.replicate_zero, List.push_toArray, List.append_toArray, List.nil_append, List.cons_append]
  gi_wp2_with (first | (refine ⟨trivial, ?_⟩; gi_at_call 23; refine (uback_in _ _).mono ?_; rintro e w' ⟨rfl, rfl⟩) | (refine ⟨trivial, ?_⟩; gi_at_call 21; refine (inW (KI.out _)).mono ?_; rintro e w1 ⟨rfl, hB1⟩))
  have a0 := (((Boxed.new w 3 (.int .i64 0)).alloc (.cells #[.int .i64 0] 3)).alloc (.cells #[.int .i64 1] 37))
  have a1 := (Boxed.new (w.alloc (.cells #[.int .i64 0] 3)) 3 (.int .i64 0)).alloc (.cells #[.int .i64 1] 37)
  have a2 := Boxed.new ((w.alloc (.cells #[.int .i64 0] 3)).alloc (.cells #[.int .i64 0] 3)) 37 (.int .i64 1)
  have hA : Below w.heap.size w (((w.alloc (.cells #[.int .i64 0] 3)).alloc (.cells #[.int .i64 0] 3)).alloc (.cells #[.int .i64 1] 37)) :=
    (((Below.refl _ w).alloc (Nat.le_refl _) _).alloc (by simp) _).alloc (by simp; omega) _
  have hAs : (((w.alloc (.cells #[.int .i64 0] 3)).alloc (.cells #[.int .i64 0] 3)).alloc (.cells #[.int .i64 1] 37)).heap.size = w.heap.size + 3 := by simp
  simp only [World.size_alloc] at a1 a2
  rw [hAs] at hB1
  generalize ((w.alloc (.cells #[.int .i64 0] 3)).alloc (.cells #[.int .i64 0] 3)).alloc (.cells #[.int .i64 1] 37) = A at *
  have hw1 : w.heap.size + 3 ≤ w1.heap.size := by have := hB1.size; omega
  have b0 := Boxed.alloc (boxLow a0 hB1 (by omega)) (.cells #[.string t] 9)
  have b1 := Boxed.alloc (boxLow a1 hB1 (by omega)) (.cells #[.string t] 9)
  have b2 := Boxed.alloc (boxLow a2 hB1 (by omega)) (.cells #[.string t] 9)
  have b3 := Boxed.new w1 9 (.string t)
  have hB0 : Below w.heap.size w (w1.alloc (.cells #[.string t] 9)) := ((hA.trans (hB1.mono (by omega))).alloc (by omega) _)
  have hsz0 : (w1.alloc (.cells #[.string t] 9)).heap.size = w1.heap.size + 1 := by simp
  generalize w1.alloc (.cells #[.string t] 9) = W0 at *
  clear a0 a1 a2 hA hAs hB1 KI ht
  simp only [Nat.add_assoc, Nat.reduceAdd] at b0 b1 b2 ⊢
  apply rangeX (gf := 25) (lb := #[.pointer (some ⟨w1.heap.size, 0, none⟩)]) (encs := encC) rfl (enters_of Try.func25 (by kernel_rfl) rfl)
    (uback_x (fun _ => False) (fun k => k = w1.heap.size) w1.heap.size t W0 hsz rfl (by omega) b3.cell) (Below.refl _ _) (fun k h => by omega) (fun _ => rfl)
    (fun pre W' => (Boxed W' w.heap.size 3 (.int .i64 0) ∧ (Boxed W' (w.heap.size + 1) 3 (.int .i64 ((bst pre).1 : Int)) ∧ Boxed W' (w.heap.size + 2) 37 (.int .i64 (bst pre).2))) ∧ ((∀ rest, (Cs 0 (bl t)).reverse = pre ++ rest → bck (bst pre).1 (bst pre).2 rest = R) ∧ Below w.heap.size w W'))
    (fun c pre W' => (c = .ret ∧ Boxed W' w.heap.size 3 (.int .i64 (R : Int))) ∧ Below w.heap.size w W')
    (Stab.and (Stab.and (Stab.box _ _ (by omega)) (Stab.and (Stab.boxed _ _ (by omega)) (Stab.boxed _ _ (by omega)))) (Stab.and (Stab.pure _) (Stab.below (by omega) (by omega))))
    (fun c => Stab.and (Stab.and (Stab.pure _) (Stab.box _ _ (by omega))) (Stab.below (by omega) (by omega)))
    ⟨⟨b0, b1, b2⟩, fun rest h => by rw [← HR0.out, h]; rfl, hB0⟩
  case hassign =>
    intro l' x W' K hK
    simp only [encC]
    gi_wp2
    exact hK
  case hbody =>
    rintro l' pre x W' ⟨⟨h0, h1, h2⟩, hrest, hB⟩ hpx
    obtain ⟨rest, hr⟩ := hpx
    have hrest' := hrest (x :: rest) (by rw [← hr]; simp)
    have hnext : ∀ rest', (Cs 0 (bl t)).reverse = (pre ++ [x]) ++ rest' → rest' = rest := fun rest' h => by
      rw [← hr] at h; exact (List.append_cancel_left h).symm
    simp only [bck] at hrest'
    have kc := fun w => class_any (x.2.1 : Int) w
    have KC := hide kc
    have HH := hide (And.intro h0 (And.intro h1 (And.intro h2 hB)))
    have HN := hide hnext
    have c0 := h0.cell
    have c1 := h1.cell
    have c2 := h2.cell
    have f0 := h0.frozen
    have f1 := h1.frozen
    have f2 := h2.frozen
    have c2' := (h2.other (B' := w.heap.size + 1) (by omega) (.int .i64 (x.1 : Int))).cell
    have f2' := (h2.other (B' := w.heap.size + 1) (by omega) (.int .i64 (x.1 : Int))).frozen
    clear h0 h1 h2 hB hrest hr kc hnext
    generalize hst : bst pre = st at *
    obtain ⟨st1, st2⟩ := st
    clear hst
    obtain ⟨k, hk⟩ : ∃ k, clsK (x.2.1 : Int) = k := ⟨_, rfl⟩
    rw [hk] at hrest' KC
    have HK := hide hk
    clear hk
    simp only at hrest' c1 c2 c2'
    by_cases hs1 : st2 = 1
    · subst hs1
      rw [if_neg (fun h => h.1 rfl)] at hrest'
      have HR := hide hrest'
      clear hrest'
      gi_wp2_with (refine ⟨trivial, ?_⟩; gi_at_call 22; refine (inR (KC.out _)).mono ?_; rintro e w2 ⟨rfl, rfl⟩)
      obtain ⟨h0, h1, h2, hB⟩ := HH.out
      refine ⟨(Kp.set _ (fun h => by omega) (by omega)).trans (Kp.set _ (fun h => by omega) (by omega)), ⟨⟨(h0.other (by omega) _).other (by omega) _, ?_, ?_⟩, ?_, ?_⟩⟩
      · rw [bst_snoc]; exact (h1.set _).other (by omega) _
      · rw [bst_snoc, HK.out]; exact (h2.other (by omega) _).set _
      · intro rest' hr'; rw [HN.out rest' hr', bst_snoc, HK.out]; exact HR.out
      · exact (hB.setCell (p := ⟨w.heap.size + 1, 0, none⟩) (Nat.le_add_right _ _) _).setCell (p := ⟨w.heap.size + 2, 0, none⟩) (Nat.le_add_right _ _) _
    · have hn1 : (st2 != 1) = true := by simp [hs1]
      by_cases hk2 : st2 = k
      · subst hk2
        rw [if_neg (fun h => h.2 rfl)] at hrest'
        have HR := hide hrest'
        clear hrest' hs1
        gi_wp2_with (refine ⟨trivial, ?_⟩; gi_at_call 22; refine (inR (KC.out _)).mono ?_; rintro e w2 ⟨rfl, rfl⟩)
        obtain ⟨h0, h1, h2, hB⟩ := HH.out
        refine ⟨(Kp.set _ (fun h => by omega) (by omega)).trans (Kp.set _ (fun h => by omega) (by omega)), ⟨⟨(h0.other (by omega) _).other (by omega) _, ?_, ?_⟩, ?_, ?_⟩⟩
        · rw [bst_snoc]; exact (h1.set _).other (by omega) _
        · rw [bst_snoc, HK.out]; exact (h2.other (by omega) _).set _
        · intro rest' hr'; rw [HN.out rest' hr', bst_snoc, HK.out]; exact HR.out
        · exact (hB.setCell (p := ⟨w.heap.size + 1, 0, none⟩) (Nat.le_add_right _ _) _).setCell (p := ⟨w.heap.size + 2, 0, none⟩) (Nat.le_add_right _ _) _
      · have hn2 : (st2 != k) = true := by simp [hk2]
        rw [if_pos ⟨hs1, hk2⟩] at hrest'
        subst hrest'
        clear hs1 hk2
        gi_wp2_with (refine ⟨trivial, ?_⟩; gi_at_call 22; refine (inR (KC.out _)).mono ?_; rintro e w2 ⟨rfl, rfl⟩)
        obtain ⟨h0, h1, h2, hB⟩ := HH.out
        exact ⟨Kp.set _ (fun h => by omega) (by omega), ⟨rfl, h0.set _⟩, hB.setCell (p := ⟨w.heap.size, 0, none⟩) (Nat.le_refl _) _⟩
  case hdone =>
    rintro D W' hD ⟨⟨h0, h1, h2⟩, hrest, hB⟩ hK
    have hR0 := hrest [] (by simp)
    have e0 : R = 0 := hR0.symm
    subst e0
    have c0 := h0.cell
    have f0 := h0.frozen
    have H0 := hide h0
    have HB := hide hB
    have HK := hide hK
    clear h0 h1 h2 hB hrest hR0 hK
    gi_wp2
    have hK' : (W'.setCell ⟨w.heap.size, 0, none⟩ (.int .i64 0)).heap[D]? = some (.deferred (some [])) := (Below.heap_setCell W' ⟨w.heap.size, 0, none⟩ _ D (by simp; omega)).trans HK.out
    refine ⟨by simp, .inl ⟨_, _, rfl, run_takeDeferred hK', ?_⟩⟩
    refine ⟨_, results_box rfl _ _ w.heap.size _ _ rfl (put_kept' _ hK' (H0.out.set _) (by omega)) (fun _ h => loadK h), rfl, (HB.out.setCell (p := ⟨w.heap.size, 0, none⟩) (Nat.le_refl _) _).trans (belowK_b (w := w) (Nat.le_refl _) _ D _ _ (by omega) hK' rfl rfl)⟩
  case hstop =>
    rintro D c pre W' hD _ ⟨⟨rfl, h0⟩, hB⟩ hK
    have H0 := hide h0
    have HB := hide hB
    clear h0 hB
    gi_wp2
    refine ⟨by simp, .inl ⟨_, _, rfl, run_takeDeferred hK, ?_⟩⟩
    refine ⟨_, results_box rfl _ _ w.heap.size _ _ rfl (put_kept' _ hK H0.out (by omega)) (fun _ h => loadK h), rfl, HB.out.trans (belowK_b (w := w) (Nat.le_refl _) _ D _ _ (by omega) hK rfl rfl)⟩
end Go.Proofs.Ytdjkbldbihpocaa
