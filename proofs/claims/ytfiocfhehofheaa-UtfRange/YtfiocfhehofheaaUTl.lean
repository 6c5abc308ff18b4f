/- What the statement's own 'wrong' answers: the wrong bytes of a text, told by Wrong, gone through twice, are those of the document's list. -/
import Derived.Test.YtfiocfhehofheaaUWrong
import Derived.Test.YtfiocfhehofheaaUChs
import Derived.Test.YtfiocfhehofheaaLSeq
import Derived.Deep.RegionHeld3
import Derived.OrdersHeld
import Derived.Deep.QuietTactic
import Derived.BigQuiet
import Derived.OwnWalkIn
import Derived.WalkKit
namespace Go.Proofs.Ytfiocfhehofheaa
open Go.RowKit Go.Shelf
set_option linter.unusedVariables false
attribute [local go_sem] Oper.semAt_some

theorem isW_right {l : List UInt8} {e : Nat × Nat × Nat} (h : e ∈ Cs 0 l) : isW e = !rightE e := by
  obtain ⟨_, _, h1, _⟩ := Cs_mem l 0 e h
  unfold isW rightE
  by_cases h2 : e.2.1 = 65533 <;> by_cases h3 : e.2.2 = 1 <;> simp [h2, h3] <;> omega
def I64t (e : Nat × Nat × Nat) : Value := .int .i64 (e.1 : Int)
theorem Try.info64t : (Try.prog.info? 3).map (fun i => (i.zero, i.size, i.bytes)) = some (some (.int .i64 0), 1, 8) := by kernel_rfl

/-- What a row of ints holds. -/
def SlN (w : World) (a : Option Addr) (xs : List Int) : Prop :=
  xs = [] ∨ ∃ b off, a = some ⟨b, off, none⟩ ∧ b < w.heap.size ∧ ∀ (i : Nat) (x : Int), xs[i]? = some x → w.cell? ⟨b, off + i, none⟩ = some (.int .i64 x)
set_option maxHeartbeats 400000 in
theorem eqN_yes (a b : Option Addr) (n c d : Nat) (xs : List Int) (hn : xs.length = n) (w : World) (ha : SlN w a xs) (hb : SlN w b xs) (hm : xs.length ≤ 1048576) :
    Calls Try.prog 29 #[.slice a n c, .slice b n d] w fun e w' => e = .returned (.bool true) ∧ Below w.heap.size w w' := by
  subst hn
  have hne : ((xs.length : Int) != (xs.length : Int)) = false := by simp
  have HA := hide ha
  have HB := hide hb
  clear ha hb
  go_enter Try.func29, Try.ntmps29
  go_wp2
  go_loopw [5] (fun i wr => ∃ k n : Nat, k ≤ xs.length ∧ i = .int .i64 k ∧ wr = w.drewN n) (fun i _ => xs.length - (intOf i).toNat)
  case atStart => exact ⟨0, 0, by omega, rfl, rfl⟩
  case round =>
    obtain ⟨k, n, hk, rfl, rfl⟩ := hrel
    by_cases hlt : k < xs.length
    · obtain ⟨x, hx⟩ : ∃ x, xs[k]? = some x := ⟨_, List.getElem?_eq_getElem hlt⟩
      obtain ⟨b1, o1, rfl, _, hs1⟩ : ∃ b off, a = some ⟨b, off, none⟩ ∧ b < w.heap.size ∧ ∀ (i : Nat) (x : Int), xs[i]? = some x → w.cell? ⟨b, off + i, none⟩ = some (.int .i64 x) := by
        rcases HA.out with h | h
        · rw [h] at hx; simp at hx
        · exact h
      obtain ⟨b2, o2, rfl, _, hs2⟩ : ∃ b0 off, b = some ⟨b0, off, none⟩ ∧ b0 < w.heap.size ∧ ∀ (i : Nat) (x : Int), xs[i]? = some x → w.cell? ⟨b0, off + i, none⟩ = some (.int .i64 x) := by
        rcases HB.out with h | h
        · rw [h] at hx; simp at hx
        · exact h
      have c1 := hs1 k x hx
      have c2 := hs2 k x hx
      have hki : (k : Int) < (xs.length : Int) := by omega
      have hb1 : (x != x) = false := by simp
      clear hs1 hs2 hx
      go_wp2_with (fail)
      go_quiet (fail)
      go_wp2_with (fail)
      go_roundw
      case rel => exact ⟨k + 1, n + nq, by omega, by go_num, rfl⟩
      case measure => simp [intOf]; omega
    · have hkk : (xs.length : Int) ≤ (k : Int) := by omega
      go_wp2_with (fail)
      go_ret
      exact ⟨rfl, below_drewN (Below.refl _ _) n⟩

theorem below_boxed_t {W W' : World} {b : Nat} {t : TypeId} {v : Value} (h : Below W.heap.size W W') (hb : Boxed W b t v) : Boxed W' b t v :=
  (h.block b (Array.getElem?_eq_some_iff.1 (show W.heap[b]? = _ from hb)).1).trans hb
theorem ownsRow_belowT {W W' : World} {base : Nat} {e : TypeId} {size : Nat} {v : Value} {k : Nat} {xs : List Value} (h : W.ownsRow base e size v k xs) (hb : Below W.heap.size W W') : W'.ownsRow base e size v k xs := by
  refine ⟨h.1, ?_⟩
  rcases h.2 with h2 | ⟨g, cap, cur, hv, hg, hh, r⟩
  · exact .inl h2
  · exact .inr ⟨g, cap, cur, hv, hg, (hb.block g (Array.getElem?_eq_some_iff.1 hh).1).trans hh, r⟩
theorem row_valT {W : World} {base : Nat} {e : TypeId} {size : Nat} {v : Value} {k : Nat} {xs : List Value} (h : W.ownsRow base e size v (k + 1) xs) : ∃ g cap, v = .slice (some ⟨g, 0, none⟩) (k + 1) cap := by
  rcases h.2 with ⟨_, h2⟩ | ⟨g, cap, cur, rfl, _⟩
  · omega
  · exact ⟨g, cap, rfl⟩
theorem row_valT0 {W : World} {base : Nat} {e : TypeId} {size : Nat} {v : Value} {k : Nat} {xs : List Value} (h : W.ownsRow base e size v k xs) : ∃ a cap, v = .slice a k cap := by
  rcases h.2 with ⟨rfl, h2⟩ | ⟨g, cap, cur, rfl, _⟩
  · exact ⟨none, 0, by rw [h2]⟩
  · exact ⟨_, cap, rfl⟩
theorem take_of_preT {α : Type} {pre xs : List α} {x : α} (h : pre ++ [x] <+: xs) : pre.length < xs.length ∧ xs[pre.length]? = some x := by
  have hl := h.length_le
  simp only [List.length_append, List.length_singleton] at hl
  refine ⟨by omega, ?_⟩
  have h2 := List.prefix_iff_eq_take.1 h
  have h3 : (pre ++ [x])[pre.length]? = some x := by simp
  rw [h2, List.getElem?_take] at h3
  simp only [List.length_append, List.length_singleton] at h3
  rwa [if_pos (by omega)] at h3
theorem sln_of_row {W : World} {base n cap : Nat} {a : Option Addr} {xs : List (Nat × Nat × Nat)} (h : W.ownsRow base 3 1 (.slice a n cap) n (xs.map I64t)) (hn : xs.length = n) : SlN W a (xs.map (fun e => (e.1 : Int))) := by
  rcases h.2 with ⟨h1, h2⟩ | ⟨g, cap', cur, h1, h2, h3, _⟩
  · exact .inl (by rw [List.length_eq_zero_iff.1 (hn.trans h2)]; rfl)
  · cases h1
    have hc := h.cells (g := g) rfl
    refine .inr ⟨g, 0, rfl, (Array.getElem?_eq_some_iff.1 h3).1, fun i x hx => ?_⟩
    rw [List.getElem?_map] at hx
    cases he : xs[i]? with
    | none => rw [he] at hx; cases hx
    | some e =>
      rw [he] at hx
      cases hx
      have := hc i (I64t e) (by rw [List.getElem?_map, he]; rfl)
      rw [Nat.zero_add]
      cases i with
      | zero => simpa [Addr.add, I64t] using this
      | succ k => simpa [Addr.add, I64t] using this
theorem load_boolT {w : World} {g : Nat} {v : Value} (h : w.cell? ⟨g, 0, none⟩ = some v) : (loadVar 4 ⟨g, 0, none⟩).run Try.prog w = .ok v w := by
  simp [loadVar, Sem.run_bind, Try.isAgg4, h, go_sem]
theorem results_boxT {P : Program} {fn : Func} {p : Tmp} {ty : TypeId} (h : fn.results = #[.cell p ty]) (tmps : Array Value) (w : World) (g : Nat) (t : TypeId) (v : Value)
    (hp : tmps.getD p undef = .pointer (some ⟨g, 0, none⟩)) (hg : Boxed w g t v) (h1 : ∀ w' : World, w'.cell? ⟨g, 0, none⟩ = some v → (loadVar ty ⟨g, 0, none⟩).run P w' = .ok v w') :
    (results fn tmps).run P w = .ok v w := by
  have hp' : tmps[p]?.getD undef = .pointer (some ⟨g, 0, none⟩) := by simpa using hp
  have e1 := h1 w hg.cell
  simp [results, h, hp', asAddr, e1]
def mk1 (D : Nat) : Deferred := { target := .collected D, args := #[] }
/-- A function leaves with the marks of its loops, and a boxed answer. -/
theorem leaves_box {F : Fence} {n : Nat} {P : Program} {fn : Func} {p : Tmp} {ty : TypeId} (h : fn.results = #[.cell p ty]) {tmps : Array Value} {g : Nat} {t : TypeId} {v : Value}
    (hp : tmps.getD p undef = .pointer (some ⟨g, 0, none⟩)) (h1 : ∀ w' : World, w'.cell? ⟨g, 0, none⟩ = some v → (loadVar ty ⟨g, 0, none⟩).run P w' = .ok v w') {w0 : World} {B : Nat} (hBw : B ≤ w0.heap.size) :
    ∀ (Ds : List Nat) (W : World), Ds.Nodup → (∀ D ∈ Ds, B ≤ D ∧ W.heap[D]? = some (.deferred (some []))) → Boxed W g t v → Below B w0 W → LeavesInM F n P fn tmps (fun e w' => e = .returned v ∧ Below B w0 w') (Ds.map mk1) .returning W
  | [], W, _, _, hg, hB => ⟨v, results_boxT h tmps W g t v hp hg h1, rfl, hB⟩
  | D :: Ds, W, hn, hD, hg, hB => by
    have hK := (hD D List.mem_cons_self).2
    have hDB := (hD D List.mem_cons_self).1
    have hgD : g ≠ D := fun e => by
      have : W.heap[g]? = _ := hg
      rw [e, hK] at this
      cases this
    refine ⟨by simp, .inl ⟨D, _, rfl, run_takeDeferred hK, ?_⟩⟩
    refine leaves_box h hp h1 hBw Ds _ (List.nodup_cons.1 hn).2 (fun D' hD' => ?_) ((World.putObj_heap_other hgD).trans hg) ?_
    · have h2 := hD D' (List.mem_cons_of_mem _ hD')
      exact ⟨h2.1, (World.putObj_heap_other (fun e => (List.nodup_cons.1 hn).1 (by rw [← e]; exact hD'))).trans h2.2⟩
    · have hgr := grownBy_putObj' W D (.deferred none)
      refine hB.grown hgr (Nat.le_trans hBw hB.size) (fun k hk => ?_)
      cases hk
      exact hDB
/-- What is asked, and no panic. -/
def noPan (Q : Exit → Act → World → Prop) : Exit → Act → World → Prop
  | .panic _, _, _ => False
  | e, a, w => Q e a w
theorem noPan_le {Q : Exit → Act → World → Prop} : ∀ e a w, noPan Q e a w → Q e a w := fun e a w h => by cases e <;> first | exact h | exact h.elim
theorem noPan_normal {Q : Exit → Act → World → Prop} {a : Act} {w : World} (h : Q .normal a w) : noPan Q .normal a w := h
set_option maxRecDepth 100000 in
set_option maxHeartbeats 4000000 in
theorem wrong_any (s : ByteArray) (a : Option Addr) (cap : Nat) (stop : Int) (w : World) (hs : s.size ≤ 1048576) (hsl : SlC w a (Cs 0 (bl s))) :
    Calls Try.prog 10 #[.string s, .slice a (Cs 0 (bl s)).length cap, .int .i64 stop] w fun e w' => e = .returned (.bool true) ∧ Below w.heap.size w w' := by
  have hll := Cs_len_le (bl s)
  rw [bl_len] at hll
  obtain ⟨i0, hi, hz0, hz1, hz2⟩ := info_parts Try.info64t
  obtain ⟨N, hN⟩ : ∃ N, (Cs 0 (bl s)).length = N := ⟨_, rfl⟩
  have HSL := hide hsl
  have HN := hide hN
  rw [hN] at hll ⊢
  clear hsl hN
  refine (callsIn_wide (n := 3)).1 ?_
  refine callsIn_of_wp_marks Try.func10 rfl trivial ?_ rfl
  simp only [Try.ntmps10, List.size_toArray, List.length_cons, List.length_nil, Nat.reduceAdd, Nat.reduceSub, Array.replicate_succ, Array.replicate_zero, List.push_toArray, List.append_toArray, List.nil_append, List.cons_append]
  gi_wp2
  have b0 := ((Boxed.new w 3 (.int .i64 stop)).alloc (.cells #[.bool false] 4)).alloc (.cells #[.slice none 0 0] 33)
  have b1 := (Boxed.new (w.alloc (.cells #[.int .i64 stop] 3)) 4 (.bool false)).alloc (.cells #[.slice none 0 0] 33)
  have b2 := Boxed.new ((w.alloc (.cells #[.int .i64 stop] 3)).alloc (.cells #[.bool false] 4)) 33 (.slice none 0 0)
  have hB0 : Below w.heap.size w (((w.alloc (.cells #[.int .i64 stop] 3)).alloc (.cells #[.bool false] 4)).alloc (.cells #[.slice none 0 0] 33)) := (((Below.refl _ w).alloc (Nat.le_refl _) _).alloc (by simp) _).alloc (by simp; omega) _
  have hsz0 : (((w.alloc (.cells #[.int .i64 stop] 3)).alloc (.cells #[.bool false] 4)).alloc (.cells #[.slice none 0 0] 33)).heap.size = w.heap.size + 3 := by simp
  simp only [World.size_alloc] at b1 b2
  obtain ⟨W0, hW0⟩ : ∃ W0, (((w.alloc (.cells #[.int .i64 stop] 3)).alloc (.cells #[.bool false] 4)).alloc (.cells #[.slice none 0 0] 33)) = W0 := ⟨_, rfl⟩
  simp only [Nat.add_assoc, Nat.reduceAdd] at b2 ⊢
  rw [hW0] at b0 b1 b2 hB0 hsz0 ⊢
  clear hW0
  refine wpIn_wide.2 ?_
  go_loopw [8] (fun q wr => ∃ k : Nat, q = .int .i64 (k : Int) ∧ k ≤ N ∧ Boxed wr w.heap.size 3 (.int .i64 stop) ∧ Boxed wr (w.heap.size + 1) 4 (.bool false) ∧ (∃ v, Boxed wr (w.heap.size + 2) 33 v ∧ World.ownsRow wr (w.heap.size + 3) 3 1 v (((Cs 0 (bl s)).take k).filter isW).length ((((Cs 0 (bl s)).take k).filter isW).map I64t)) ∧ w.heap.size + 3 ≤ wr.heap.size ∧ Below w.heap.size w wr) (fun q _ => N - (intOf q).toNat)
  case atStart => exact ⟨0, rfl, by omega, b0, b1, ⟨_, b2, World.ownsRow_nil _ _ _ _⟩, by omega, hB0⟩
  case round =>
    obtain ⟨k, rfl, hk, h0, h1, ⟨v, h2, hrow⟩, hsz, hB⟩ := hrel
    clear b0 b1 b2 hB0 hsz0
    by_cases hlt : k < N
    · have hltC : k < (Cs 0 (bl s)).length := by rw [HN.out]; exact hlt
      obtain ⟨e, he⟩ : ∃ e, (Cs 0 (bl s))[k]? = some e := ⟨_, List.getElem?_eq_getElem hltC⟩
      have hmem : e ∈ Cs 0 (bl s) := List.mem_of_getElem? he
      have hiw := isW_right hmem
      obtain ⟨b, rfl, hbl, hcl⟩ : ∃ b, a = some ⟨b, 0, none⟩ ∧ b < w.heap.size ∧ ∀ (i : Nat) (e : Nat × Nat × Nat), (Cs 0 (bl s))[i]? = some e →
          w.cell? ⟨b, i * 4, none⟩ = some (.int .i64 (e.1 : Int)) ∧ w.cell? ⟨b, i * 4 + 1, none⟩ = some (.int .i32 (e.2.1 : Int)) ∧ w.cell? ⟨b, i * 4 + 2, none⟩ = some (.int .i64 (e.2.2 : Int)) ∧ w.cell? ⟨b, i * 4 + 3, none⟩ = some (.bool (rightE e)) := by
        rcases HSL.out with h | h
        · rw [h] at hltC; simp at hltC
        · exact h
      obtain ⟨z0, -, -, z3⟩ := hcl k e he
      have y0 := (hB.cell (p := ⟨b, k * 4, none⟩) hbl).trans z0
      have y3 := (hB.cell (p := ⟨b, k * 4 + 3, none⟩) hbl).trans z3
      have hsn : ((Cs 0 (bl s)).take (k + 1)).filter isW = ((Cs 0 (bl s)).take k).filter isW ++ (if isW e then [e] else []) := by
        rw [← take_snoc he, List.filter_append]
        congr 1
        by_cases h : isW e = true <;> simp [h]
      have hfl : (((Cs 0 (bl s)).take k).filter isW).length ≤ k := by
        have h1 := List.length_filter_le isW ((Cs 0 (bl s)).take k)
        rw [List.length_take] at h1
        omega
      have hltI : (k : Int) < (N : Int) := by omega
      by_cases hr : rightE e = true
      · rw [hr] at hiw y3
        rw [hiw] at hsn
        simp only [Bool.not_true, Bool.false_eq_true, if_false, List.append_nil] at hsn
        have HH := hide (And.intro h0 (And.intro h1 (And.intro h2 (And.intro hrow (And.intro hsz hB)))))
        have HSN := hide hsn
        clear h0 h1 h2 hrow hsz hB hsn hcl he hmem hiw hr hfl z0 z3 y0
        go_wp2_with (fail)
        go_roundw
        case rel =>
          obtain ⟨h0, h1, h2, hrow, hsz, hB⟩ := HH.out
          exact ⟨k + 1, by go_num, by omega, h0, h1, ⟨v, h2, by rw [HSN.out]; exact hrow⟩, hsz, hB⟩
        case measure => simp [intOf]; omega
      · have hr' : rightE e = false := by simpa using hr
        rw [hr'] at hiw y3
        rw [hiw] at hsn
        simp only [Bool.not_false, if_true] at hsn
        generalize hF : ((Cs 0 (bl s)).take k).filter isW = F at *
        clear hcl he hmem hiw hr z0 z3 hF
        have fin : ∀ w4 v', World.ownsRow w4 (w.heap.size + 3) 3 1 v' (F.length + 1) (F.map I64t ++ [.int .i64 (e.1 : Int)]) → (wr.drew.alloc (.cells #[.int .i64 (e.1 : Int)] 3)).grownBy w4 v.ownBlock →
            (b < w.heap.size ∧ w4.cell? ⟨b, k * 4, none⟩ = some (.int .i64 (e.1 : Int))) ∧ w4.cell? ⟨w.heap.size + 2, 0, none⟩ = some v ∧ w4.frozen? ⟨w.heap.size + 2, 0, none⟩ = false ∧ (b < w.heap.size ∧ (w4.setCell ⟨w.heap.size + 2, 0, none⟩ v').cell? ⟨b, k * 4, none⟩ = some (.int .i64 (e.1 : Int))) ∧
            (∃ k' : Nat, Value.int .i64 ((k : Int) + 1) = .int .i64 (k' : Int) ∧ k' ≤ N ∧ Boxed (w4.setCell ⟨w.heap.size + 2, 0, none⟩ v') w.heap.size 3 (.int .i64 stop) ∧ Boxed (w4.setCell ⟨w.heap.size + 2, 0, none⟩ v') (w.heap.size + 1) 4 (.bool false) ∧ (∃ v, Boxed (w4.setCell ⟨w.heap.size + 2, 0, none⟩ v') (w.heap.size + 2) 33 v ∧ World.ownsRow (w4.setCell ⟨w.heap.size + 2, 0, none⟩ v') (w.heap.size + 3) 3 1 v (((Cs 0 (bl s)).take k').filter isW).length ((((Cs 0 (bl s)).take k').filter isW).map I64t)) ∧ w.heap.size + 3 ≤ (w4.setCell ⟨w.heap.size + 2, 0, none⟩ v').heap.size ∧ Below w.heap.size w (w4.setCell ⟨w.heap.size + 2, 0, none⟩ v')) := by
          intro w4 v' hown hgr
          have hBA : Below wr.heap.size wr (wr.drew.alloc (.cells #[.int .i64 (e.1 : Int)] 3)) := ((Below.refl _ wr).drew).alloc (Nat.le_refl _) _
          have hlow : ∀ j, v.ownBlock = some j → w.heap.size + 3 ≤ j := fun j hj => by
            rcases hrow.2 with ⟨rfl, _⟩ | ⟨g, cap, cur, rfl, hg, hh, _⟩
            · cases hj
            · cases hj; exact hg
          have hkeep : ∀ j o, wr.heap[j]? = some o → j < w.heap.size + 3 → w4.heap[j]? = some o := fun j o hj hc => by
            have hj2 := (hBA.block j (Array.getElem?_eq_some_iff.1 hj).1).trans hj
            refine (hgr.block j (Array.getElem?_eq_some_iff.1 hj2).1 (fun e => ?_)).trans hj2
            have := hlow j e.symm
            omega
          have g0 : Boxed w4 w.heap.size 3 (.int .i64 stop) := hkeep _ _ h0 (by omega)
          have g1 : Boxed w4 (w.heap.size + 1) 4 (.bool false) := hkeep _ _ h1 (by omega)
          have g2 : Boxed w4 (w.heap.size + 2) 33 v := hkeep _ _ h2 (by omega)
          have hBw4 : Below w.heap.size w w4 := (bseq hB hBA).grown hgr (by have := hBA.size; omega) (fun j hj => by have := hlow j hj; omega)
          have hB5 : Below w.heap.size w (w4.setCell ⟨w.heap.size + 2, 0, none⟩ v') := hBw4.setCell (p := ⟨w.heap.size + 2, 0, none⟩) (Nat.le_add_right _ _) _
          have hz : w.cell? ⟨b, k * 4, none⟩ = some (.int .i64 (e.1 : Int)) := (hB.cell (p := ⟨b, k * 4, none⟩) hbl).symm.trans y0
          refine ⟨⟨hbl, (hBw4.cell (p := ⟨b, k * 4, none⟩) hbl).trans hz⟩, g2.cell, g2.frozen, ⟨hbl, (hB5.cell (p := ⟨b, k * 4, none⟩) hbl).trans hz⟩, k + 1, by push_cast; rfl, by omega, g0.other (by omega) v', g1.other (by omega) v', ⟨v', g2.set v', ?_⟩, ?_, hB5⟩
          · rw [hsn, List.length_append, List.map_append]
            exact ownsRow_setCell_below (a := ⟨w.heap.size + 2, 0, none⟩) hown (show w.heap.size + 2 < w.heap.size + 3 by omega) v'
          · have := hgr.size; have := hBA.size; simp [World.setCell] ; omega
        have ub : ∀ W, Below wr.heap.size wr W → W.cell? ⟨w.heap.size + 2, 0, none⟩ = some v ∧ W.frozen? ⟨w.heap.size + 2, 0, none⟩ = false := fun W hW => ⟨(below_boxed_t hW h2).cell, (below_boxed_t hW h2).frozen⟩
        have mk : ∀ W, Below wr.heap.size wr W → b < w.heap.size ∧ W.cell? ⟨b, k * 4, none⟩ = some (.int .i64 (e.1 : Int)) := fun W hW => ⟨hbl, (hW.cell (p := ⟨b, k * 4, none⟩) (by show b < wr.heap.size; omega)).trans y0⟩
        have FIN := hide fin
        have UB := hide ub
        have MK := hide mk
        have HX := hide (show Below wr.heap.size wr (wr.drew.alloc (.cells #[.int .i64 (e.1 : Int)] 3)) from ((Below.refl _ wr).drew).alloc (Nat.le_refl _) _)
        have HR4 := hide (ownsRow_belowT hrow HX.out)
        have HFL := hide (show F.length ≤ 1048576 by omega)
        have HSZ := hide hsz
        have hzz : N * 4 ≤ 4194304 := by omega
        clear fin ub mk hrow h0 h1 h2 hB hsn hfl hsz
        go_wp2_with (fail)
        refine Go.wp_mono (Q := noPan _) ?_ noPan_le
        refine wp_region_held_drew (S := fun W => b < w.heap.size ∧ W.cell? ⟨b, k * 4, none⟩ = some (.int .i64 (e.1 : Int))) (by kernel_rfl) (MK.out _ (Below.refl _ wr).drew) (fun hS => ?_)
        refine wpAnyH_take (i := 1) (v := .slice (some ⟨b, 0, none⟩) N cap) rfl (by kernel_rfl) (by kernel_rfl) (by kernel_rfl) (fun _ _ _ h => h) (Or.inl ⟨by kernel_rfl, fun w' hw => by (obtain ⟨hw0, hw1⟩ := hw; go_simp)⟩) hS ?_
        refine wpAnyH_take (i := 2) (v := .int .i64 (k : Int)) rfl (by kernel_rfl) (by kernel_rfl) (by kernel_rfl) (fun _ _ _ h => h) (Or.inl ⟨by kernel_rfl, fun w' hw => by (obtain ⟨hw0, hw1⟩ := hw; go_simp)⟩) hS ?_
        refine wpAnyH_take (i := 3) (v := .pointer (some ⟨b, k * 4, none⟩)) rfl (by kernel_rfl) (by kernel_rfl) (by kernel_rfl) (fun _ _ _ h => h) (Or.inl ⟨by kernel_rfl, fun w' hw => by (obtain ⟨hw0, hw1⟩ := hw; go_simp)⟩) hS ?_
        refine wpAnyH_take (i := 4) (v := .pointer (some ⟨b, k * 4, none⟩)) rfl (by kernel_rfl) (by kernel_rfl) (by kernel_rfl) (fun _ _ _ h => h) (Or.inl ⟨by kernel_rfl, fun w' hw => by (obtain ⟨hw0, hw1⟩ := hw; go_simp)⟩) hS ?_
        refine wpAnyH_take (i := 5) (v := .int .i64 (e.1 : Int)) rfl (by kernel_rfl) (by kernel_rfl) (by kernel_rfl) (fun _ _ _ h => h) (Or.inl ⟨by kernel_rfl, fun w' hw => by (obtain ⟨hw0, hw1⟩ := hw; go_simp)⟩) hS ?_
        refine wpAnyH_ready (rs := [0, 6]) (by kernel_rfl) (by simp) ?_
        refine AllReadyH.cons rfl (fun K hK => ?_) (AllReadyH.cons rfl (fun K hK => ?_) AllReadyH.nil)
        · rw [if_pos (by kernel_rfl)]
          obtain ⟨l0, -⟩ := UB.out _ ((Below.refl _ wr).drew)
          go_simp
          refine hK.out _ _ (MK.out _ ((Below.refl _ wr).drew)) (fun _ => ?_)
          clear hK K
          refine wpAnyH_ready (rs := [6]) (by kernel_rfl) (by simp) ?_
          refine AllReadyH.cons rfl (fun K hK => ?_) AllReadyH.nil
          rw [if_pos (by kernel_rfl)]
          go_simp
          refine hK.out _ _ (MK.out _ HX.out) (fun _ => ?_)
          clear hK K
          refine wpAnyH_ready (rs := [7]) (by kernel_rfl) (by simp) ?_
          refine AllReadyH.cons rfl (fun K hK => ?_) AllReadyH.nil
          rw [if_pos (by kernel_rfl)]
          refine wp_append_own _ (.tmp 25) (.tmp 31) 33 rfl (w.heap.size + 3) 3 i0 (.int .i64 0) 1 8 Try.underlying33 hi hz0 hz1 hz2 rfl (by decide) v F.length (F.map I64t) rfl HR4.out ⟨wr.drew.heap.size, 0, none⟩ 1 1 [.int .i64 (e.1 : Int)] rfl rfl (cell_one_new _ _ _) (by simp [Value.oneCell']) (by simp only [maxLen]; have := HFL.out; omega) (by have := HFL.out; omega) (by have := HSZ.out; simp [World.drew]; omega) ?_
          intro v' w4 hown' hgrow _
          obtain ⟨g', cap', rfl⟩ := row_valT hown'
          obtain ⟨hS4, c4, f4, hS5, hfin⟩ := FIN.out w4 _ hown' hgrow
          have HFIN := hide hfin
          clear hfin
          refine hK.out _ _ hS4 (fun _ => ?_)
          clear hK K
          refine wpAnyH_ready (rs := [8]) (by kernel_rfl) (by simp) ?_
          refine AllReadyH.cons rfl (fun K hK => ?_) AllReadyH.nil
          rw [if_pos (by kernel_rfl)]
          go_simp
          refine hK.out _ _ hS5 (fun _ => ?_)
          clear hK K
          refine wpAnyH_done (by kernel_rfl) (noPan_normal ?_) _
          try simp only [Act.put, List.getElem_toArray, List.getElem_cons_zero, List.getElem_cons_succ, List.setIfInBounds_toArray, List.set_cons_zero, List.set_cons_succ]
          generalize w4.setCell ⟨w.heap.size + 2, 0, none⟩ _ = W5 at *
          clear hS4 hS5 c4 f4
          go_wp2_with (fail)
          go_roundw
          case rel => exact HFIN.out
          case measure => simp [intOf]; omega
        · rw [if_pos (by kernel_rfl)]
          go_simp
          refine hK.out _ _ (MK.out _ HX.out) (fun _ => ?_)
          clear hK K
          refine wpAnyH_ready (rs := [0]) (by kernel_rfl) (by simp) ?_
          refine AllReadyH.cons rfl (fun K hK => ?_) AllReadyH.nil
          rw [if_pos (by kernel_rfl)]
          obtain ⟨l0, -⟩ := UB.out _ ((Below.refl _ wr).alloc (Nat.le_refl _) (.cells #[.int .i64 (e.1 : Int)] 3))
          go_simp
          refine hK.out _ _ (MK.out _ HX.out) (fun _ => ?_)
          clear hK K
          refine wpAnyH_ready (rs := [7]) (by kernel_rfl) (by simp) ?_
          refine AllReadyH.cons rfl (fun K hK => ?_) AllReadyH.nil
          rw [if_pos (by kernel_rfl)]
          refine wp_append_own _ (.tmp 25) (.tmp 31) 33 rfl (w.heap.size + 3) 3 i0 (.int .i64 0) 1 8 Try.underlying33 hi hz0 hz1 hz2 rfl (by decide) v F.length (F.map I64t) rfl HR4.out ⟨wr.drew.heap.size, 0, none⟩ 1 1 [.int .i64 (e.1 : Int)] rfl rfl (cell_one_new _ _ _) (by simp [Value.oneCell']) (by simp only [maxLen]; have := HFL.out; omega) (by have := HFL.out; omega) (by have := HSZ.out; simp [World.drew]; omega) ?_
          intro v' w4 hown' hgrow _
          obtain ⟨g', cap', rfl⟩ := row_valT hown'
          obtain ⟨hS4, c4, f4, hS5, hfin⟩ := FIN.out w4 _ hown' hgrow
          have HFIN := hide hfin
          clear hfin
          refine hK.out _ _ hS4 (fun _ => ?_)
          clear hK K
          refine wpAnyH_ready (rs := [8]) (by kernel_rfl) (by simp) ?_
          refine AllReadyH.cons rfl (fun K hK => ?_) AllReadyH.nil
          rw [if_pos (by kernel_rfl)]
          go_simp
          refine hK.out _ _ hS5 (fun _ => ?_)
          clear hK K
          refine wpAnyH_done (by kernel_rfl) (noPan_normal ?_) _
          try simp only [Act.put, List.getElem_toArray, List.getElem_cons_zero, List.getElem_cons_succ, List.setIfInBounds_toArray, List.set_cons_zero, List.set_cons_succ]
          generalize w4.setCell ⟨w.heap.size + 2, 0, none⟩ _ = W5 at *
          clear hS4 hS5 c4 f4
          go_wp2_with (fail)
          go_roundw
          case rel => exact HFIN.out
          case measure => simp [intOf]; omega
    · have hkN : k = N := by omega
      subst hkN
      have hge : (k : Int) ≤ (k : Int) := by omega
      rw [List.take_of_length_le (by rw [HN.out]; exact Nat.le_refl _)] at hrow
      obtain ⟨aw, cw', rfl⟩ := row_valT0 hrow
      have hwl : (Ws (bl s)).length ≤ k := by
        have h1 := List.length_filter_le isW (Cs 0 (bl s))
        rw [HN.out] at h1
        exact h1
      have hslw := sln_of_row hrow rfl
      have HSW := hide hslw
      have HH := hide (And.intro h0 (And.intro h1 (And.intro h2 (And.intro hsz hB))))
      clear hrow hslw h0 h1 h2 hsz hB
      clear HSL HN
      change Hid (SlN wr aw ((Ws (bl s)).map _)) at HSW
      go_wp2_with (fail)
      gi_wp2_with (refine ⟨trivial, ?_⟩; gi_at_call 18; refine (uwrong_in s _).mono ?_; rintro e w' ⟨rfl, rfl⟩)
      have b9 := (Boxed.new wr 33 (.slice none 0 0)).alloc (.cells #[.string s] 9)
      have b5 := Boxed.new (wr.alloc (.cells #[.slice none 0 0] 33)) 9 (.string s)
      have hB1 : Below wr.heap.size wr ((wr.alloc (.cells #[.slice none 0 0] 33)).alloc (.cells #[.string s] 9)) := ((Below.refl _ wr).alloc (Nat.le_refl _) _).alloc (by simp) _
      have hsz1 : ((wr.alloc (.cells #[.slice none 0 0] 33)).alloc (.cells #[.string s] 9)).heap.size = wr.heap.size + 2 := by simp
      simp only [World.size_alloc] at b5
      generalize (wr.alloc (.cells #[.slice none 0 0] 33)).alloc (.cells #[.string s] 9) = W1 at *
      apply rangeX (gf := 31) (lb := #[.pointer (some ⟨wr.heap.size + 1, 0, none⟩)]) (encs := encW) rfl (enters_of Try.func31 (by kernel_rfl) rfl)
        (uwrong_x (fun t => t = 3) (fun k => k = wr.heap.size + 1) (wr.heap.size + 1) s W1 (by omega) rfl (by omega) b5.cell) (Below.refl _ _) (fun k h => by omega) (fun _ => rfl)
        (fun pre W' => (∃ v, Boxed W' wr.heap.size 33 v ∧ World.ownsRow W' (wr.heap.size + 2) 3 1 v pre.length (pre.map I64t)) ∧ (wr.heap.size + 2 ≤ W'.heap.size ∧ Below wr.heap.size wr W'))
        (fun c pre W' => False)
        (Stab.and (Stab.ex fun v => Stab.and (Stab.box _ _ (by omega)) (Stab.row _ _ _ _ _ rfl)) (Stab.and (fun s A B h hs => Nat.le_trans h hs.1.2.2.2) (Stab.below (by omega) (Nat.le_refl _))))
        (fun c => Stab.pure (fun _ => False))
        ⟨⟨_, b9, World.ownsRow_nil _ _ _ _⟩, by omega, hB1⟩
      case hassign =>
        intro l' x W' K hK
        simp only [encW]
        gi_wp2
        exact hK
      case hbody =>
        rintro l' pre x W' ⟨⟨v, h9, hrow⟩, hszW, hBW⟩ hpx
        obtain ⟨hpl, hget⟩ := take_of_preT hpx
        have fin : ∀ w4 v', World.ownsRow w4 (wr.heap.size + 2) 3 1 v' (pre.length + 1) (pre.map I64t ++ [.int .i64 (x.1 : Int)]) → (W'.alloc (.cells #[.int .i64 (x.1 : Int)] 3)).grownBy w4 v.ownBlock →
            (w4.cell? ⟨wr.heap.size, 0, none⟩ = some v ∧ w4.frozen? ⟨wr.heap.size, 0, none⟩ = false) ∧
            (Kp (fun t => t = 3) (fun k => k = wr.heap.size + 1) W1.heap.size W' (w4.setCell ⟨wr.heap.size, 0, none⟩ v') ∧ (∃ v, Boxed (w4.setCell ⟨wr.heap.size, 0, none⟩ v') wr.heap.size 33 v ∧ World.ownsRow (w4.setCell ⟨wr.heap.size, 0, none⟩ v') (wr.heap.size + 2) 3 1 v (pre ++ [x]).length ((pre ++ [x]).map I64t)) ∧ (wr.heap.size + 2 ≤ (w4.setCell ⟨wr.heap.size, 0, none⟩ v').heap.size ∧ Below wr.heap.size wr (w4.setCell ⟨wr.heap.size, 0, none⟩ v'))) := by
          intro w4 v' hown hgr
          have hB4 : Below W'.heap.size W' (W'.alloc (.cells #[.int .i64 (x.1 : Int)] 3)) := (Below.refl _ W').alloc (Nat.le_refl _) _
          have hrow4 := ownsRow_belowT hrow hB4
          have hlow : ∀ j, v.ownBlock = some j → wr.heap.size + 2 ≤ j ∧ ∃ o, (W'.alloc (.cells #[.int .i64 (x.1 : Int)] 3)).heap[j]? = some o ∧ Held (fun t => t = 3) o := fun j hj => by
            rcases hrow4.2 with ⟨rfl, _⟩ | ⟨g, cap, cur, rfl, hg, hh, _⟩
            · cases hj
            · cases hj
              exact ⟨hg, _, hh, _, _, _, rfl, rfl⟩
          have hj2 := below_boxed_t hB4 h9
          have g9 : Boxed w4 wr.heap.size 33 v := by
            refine (hgr.block _ (Array.getElem?_eq_some_iff.1 (show _ = some _ from hj2)).1 (fun e => ?_)).trans hj2
            have := (hlow _ e.symm).1
            omega
          refine ⟨⟨g9.cell, g9.frozen⟩, ?_, ⟨v', g9.set v', ?_⟩, ?_, ?_⟩
          · refine ((Kp.of_below hB4).trans (Kp.grown hgr (fun j hj => ?_))).trans (Kp.set _ (fun h => by omega) (by omega))
            obtain ⟨h5, h6⟩ := hlow j hj
            exact ⟨by omega, .inr h6⟩
          · rw [List.length_append, List.map_append]
            exact ownsRow_setCell_below (a := ⟨wr.heap.size, 0, none⟩) hown (show wr.heap.size < wr.heap.size + 2 by omega) v'
          · have := hB4.size; have := hgr.size; simp [World.setCell]; omega
          · refine Below.setCell (p := ⟨wr.heap.size, 0, none⟩) ?_ (Nat.le_refl _) _
            refine (bseq hBW hB4).grown hgr (by have := hB4.size; omega) (fun j hj => ?_)
            have := (hlow j hj).1
            omega
        have FIN := hide fin
        have HROW := hide hrow
        have HPL := hide (show pre.length ≤ 1048576 by omega)
        have HSZ := hide hszW
        have c9 := h9.cell
        clear fin hrow hpx hget h9 hBW hszW HH HSW b9 b5 hB1
        gi_wp2_with (gi_at_builtin; refine wpListIn_append_own _ rfl _ _ 33 rfl (wr.heap.size + 2) 3 i0 (.int .i64 0) 1 8 Try.underlying33 hi hz0 hz1 hz2 rfl (by decide) v pre.length (pre.map I64t) rfl (HROW.out.alloc _) ⟨W'.heap.size, 0, none⟩ 1 1 [.int .i64 (x.1 : Int)] rfl rfl (cell_one_new _ _ _) (by simp [Value.oneCell']) (by simp only [maxLen]; have := HPL.out; omega) (by have := HPL.out; omega) (by have := HSZ.out; simp; omega) ?_; intro v' w4 hown' hgrow' _; obtain ⟨g', cap', rfl⟩ := row_valT hown'; obtain ⟨⟨d1, df1⟩, hfin⟩ := FIN.out w4 _ hown' hgrow'; replace hfin := hide hfin)
        exact ⟨hfin.out.1, hfin.out.2.1, hfin.out.2.2⟩
      case hstop => rintro D c pre W' hD hpre h; exact h.elim
      case hdone =>
        rintro D W' hD ⟨⟨v, h9, hrow⟩, hszW, hBW⟩ hK
        clear b9 b5 hB1
        obtain ⟨ag, cg, rfl⟩ := row_valT0 hrow
        have hslg := sln_of_row hrow rfl
        have HSG := hide hslg
        have H9 := hide h9
        have HBW := hide hBW
        have HK := hide hK
        clear hrow hslg h9 hBW hK
        gi_wp2_with (refine ⟨trivial, ?_⟩; gi_at_call 18; refine (uwrong_in s _).mono ?_; rintro e w' ⟨rfl, rfl⟩)
        have b11 := (Boxed.new W' 3 (.int .i64 0)).alloc (.cells #[.string s] 9)
        have b6 := Boxed.new (W'.alloc (.cells #[.int .i64 0] 3)) 9 (.string s)
        have hB2 : Below W'.heap.size W' ((W'.alloc (.cells #[.int .i64 0] 3)).alloc (.cells #[.string s] 9)) := ((Below.refl _ W').alloc (Nat.le_refl _) _).alloc (by simp) _
        have hsz2 : ((W'.alloc (.cells #[.int .i64 0] 3)).alloc (.cells #[.string s] 9)).heap.size = W'.heap.size + 2 := by simp
        simp only [World.size_alloc] at b6
        generalize (W'.alloc (.cells #[.int .i64 0] 3)).alloc (.cells #[.string s] 9) = W2 at *
        have hDl : D < W'.heap.size := (Array.getElem?_eq_some_iff.1 HK.out).1
        have facts : ∀ X, Below W'.heap.size W' X → Boxed X w.heap.size 3 (.int .i64 stop) ∧ Boxed X (w.heap.size + 1) 4 (.bool false) ∧ Boxed X (w.heap.size + 2) 33 (.slice aw (Ws (bl s)).length cw') ∧ Boxed X wr.heap.size 33 (.slice ag (Ws (bl s)).length cg) ∧ X.heap[D]? = some (.deferred (some [])) ∧ Below w.heap.size w X ∧ SlN X aw ((Ws (bl s)).map (fun e => (e.1 : Int))) ∧ SlN X ag ((Ws (bl s)).map (fun e => (e.1 : Int))) := fun X hX => by
          obtain ⟨h0, h1, h2, h3, h4⟩ := HH.out
          have hX2 : Below wr.heap.size wr X := HBW.out.trans (hX.mono (by omega))
          refine ⟨below_boxed_t hX2 h0, below_boxed_t hX2 h1, below_boxed_t hX2 h2, below_boxed_t hX H9.out, (hX.block D hDl).trans HK.out, bseq h4 hX2, ?_, ?_⟩
          · rcases HSW.out with h | ⟨b, off, hb1, hb2, hb3⟩
            · exact .inl h
            · exact .inr ⟨b, off, hb1, by have := hX2.size; omega, fun i x hx => (hX2.cell (p := ⟨b, off + i, none⟩) hb2).trans (hb3 i x hx)⟩
          · rcases HSG.out with h | ⟨b, off, hb1, hb2, hb3⟩
            · exact .inl h
            · exact .inr ⟨b, off, hb1, by have := hX.size; omega, fun i x hx => (hX.cell (p := ⟨b, off + i, none⟩) hb2).trans (hb3 i x hx)⟩
        have hD0 : w.heap.size + 3 ≤ D := by have := HH.out.2.2.2.1; omega
        have FACTS := hide facts
        clear facts HH HSW HSG H9 HBW HK
        have hres : w.heap.size + 1 < W'.heap.size := (Array.getElem?_eq_some_iff.1 (show _ = some _ from (FACTS.out W' (Below.refl _ _)).2.1)).1
        have hwX := (FACTS.out W' (Below.refl _ _)).2.2.2.2.2.1.size
        have endS : ∀ (D2 : Nat) (X : World), W2.heap.size ≤ D2 → Below W'.heap.size W' X → X.heap[D2]? = some (.deferred (some [])) → ∀ X2, Below X.heap.size X X2 → ∀ tmps : Array Value, tmps.getD 6 undef = .pointer (some ⟨w.heap.size + 1, 0, none⟩) →
            LeavesInM Fence.wide 3 Try.prog Try.f10 tmps (fun e w' => e = .returned (.bool true) ∧ Below w.heap.size w w') [mk1 D2, mk1 D] .returning (X2.setCell ⟨w.heap.size + 1, 0, none⟩ (.bool true)) := by
          intro D2 X hD2 hX hK2 X2 hX2 tmps ht
          obtain ⟨h0, h1, h2, h9, hKD, hBw, -, -⟩ := FACTS.out X hX
          have hBX := bseq hBw hX2
          have hl2 := (Array.getElem?_eq_some_iff.1 hK2).1
          have hlD := (Array.getElem?_eq_some_iff.1 hKD).1
          refine leaves_box (p := 6) (ty := 4) (g := w.heap.size + 1) (t := 4) (B := w.heap.size) (w0 := w) rfl ht (fun w' hw => load_boolT hw) (Nat.le_refl _) [D2, D] _ (by simp; omega) (fun d hd => ?_) ((below_boxed_t hX2 h1).set _) (hBX.setCell (p := ⟨w.heap.size + 1, 0, none⟩) (Nat.le_add_right _ _) _)
          have key : ∀ d, w.heap.size + 1 < d → X.heap[d]? = some (.deferred (some [])) → (X2.setCell ⟨w.heap.size + 1, 0, none⟩ (.bool true)).heap[d]? = some (.deferred (some [])) := fun d hd h => by
            have e1 := (hX2.block d (Array.getElem?_eq_some_iff.1 h).1).trans h
            refine ((grownBy_setCell' X2 (w.heap.size + 1) (.bool true)).block d (Array.getElem?_eq_some_iff.1 e1).1 (fun e => ?_)).trans e1
            cases e
            omega
          simp only [List.mem_cons, List.not_mem_nil, or_false] at hd
          rcases hd with rfl | rfl
          · exact ⟨by omega, key _ (by omega) hK2⟩
          · exact ⟨by omega, key _ (by omega) hKD⟩
        have ENDS := hide endS
        clear endS
        apply rangeX (gf := 31) (lb := #[.pointer (some ⟨W'.heap.size + 1, 0, none⟩)]) (encs := encW) rfl (enters_of Try.func31 (by kernel_rfl) rfl)
          (uwrong_x (fun t => False) (fun k => k = W'.heap.size + 1) (W'.heap.size + 1) s W2 (by omega) rfl (by omega) b6.cell) (Below.refl _ _) (fun k h => by omega) (fun _ => rfl)
          (fun pre X => Boxed X W'.heap.size 3 (.int .i64 (pre.length : Int)) ∧ Below W'.heap.size W' X)
          (fun c pre X => c = .exit 4 ∧ Below W'.heap.size W' X)
          (Stab.and (Stab.boxed _ _ (by omega)) (Stab.below (by omega) (Nat.le_refl _)))
          (fun c => Stab.and (Stab.pure _) (Stab.below (by omega) (Nat.le_refl _)))
          ⟨b11, hB2⟩
        case hassign =>
          intro l' x X K hK
          simp only [encW]
          gi_wp2
          exact hK
        case hbody =>
          rintro l' pre x X ⟨h11, hBX⟩ hpx
          obtain ⟨hpl, hget⟩ := take_of_preT hpx
          obtain ⟨h0, h1, h2, h9, hKD, hBw, hsw, -⟩ := FACTS.out X hBX
          have hx1 : ((Ws (bl s)).map (fun e => (e.1 : Int)))[pre.length]? = some (x.1 : Int) := by rw [List.getElem?_map, hget]; rfl
          obtain ⟨bw, ow, rfl, -, hcl⟩ : ∃ b off, aw = some ⟨b, off, none⟩ ∧ b < X.heap.size ∧ ∀ (i : Nat) (x : Int), ((Ws (bl s)).map (fun e => (e.1 : Int)))[i]? = some x → X.cell? ⟨b, off + i, none⟩ = some (.int .i64 x) := by
            rcases hsw with h | h
            · rw [h] at hx1; cases hx1
            · exact h
          have y0 := hcl _ _ hx1
          have c11 := h11.cell
          have f11 := h11.frozen
          have c2 := h2.cell
          have c0' := (h0.other (B' := W'.heap.size) (by omega) (.int .i64 ((pre.length : Int) + 1))).cell
          have c11' := (h11.set (.int .i64 ((pre.length : Int) + 1))).cell
          have hltI : (pre.length : Int) < ((Ws (bl s)).length : Int) := by omega
          have hne : ((x.1 : Int) != (x.1 : Int)) = false := by simp
          have hwr : (IntKind.wrap .i64 ((pre.length : Int) + 1)) = (pre.length : Int) + 1 := by rw [IntKind.wrap_i64]; omega
          have HX := hide (And.intro h11 hBX)
          generalize (Ws (bl s)).length = NW at *
          clear hx1 hcl hsw h0 h1 h2 h9 hKD hBw h11 hBX hget hpx hB2 b11 b6
          by_cases hst : (pre.length : Int) + 1 = stop
          · have hst' : ((pre.length : Int) + 1 == stop) = true := by simp [hst]
            clear hst
            gi_wp2
            obtain ⟨h11, hBX⟩ := HX.out
            exact ⟨Kp.set _ (fun h => by omega) (by omega), rfl, hBX.setCell (p := ⟨W'.heap.size, 0, none⟩) (Nat.le_refl _) _⟩
          · have hst' : ((pre.length : Int) + 1 == stop) = false := by simp [hst]
            clear hst
            gi_wp2
            obtain ⟨h11, hBX⟩ := HX.out
            refine ⟨Kp.set _ (fun h => by omega) (by omega), ?_, hBX.setCell (p := ⟨W'.heap.size, 0, none⟩) (Nat.le_refl _) _⟩
            have := h11.set (.int .i64 ((pre.length : Int) + 1))
            simpa using this
        case hdone =>
          rintro D2 X hD2 ⟨-, hBX⟩ hK2
          have ke := fun X2 hX2 => ENDS.out D2 X hD2 hBX hK2 X2 hX2
          obtain ⟨h0, h1, h2, h9, hKD, hBw, hsw, hsg⟩ := FACTS.out X hBX
          have kq := eqN_yes ag aw (Ws (bl s)).length cg cw' _ (List.length_map _) X hsg hsw (by rw [List.length_map]; omega)
          have c2 := h2.cell
          have c9 := h9.cell
          have KQ := hide kq
          have KE := hide ke
          have H1 := hide h1
          generalize (Ws (bl s)).length = NW at *
          clear h0 h1 h2 h9 hKD hBw hsw hsg kq ke FACTS ENDS hB2 b11 b6 hK2
          gi_wp2_with (refine ⟨trivial, ?_⟩; gi_at_call 29; refine ((callsIn_wide).2 KQ.out).mono ?_; rintro e X2 ⟨rfl, hX2⟩; have c1 := (below_boxed_t hX2 H1.out).cell; have f1 := (below_boxed_t hX2 H1.out).frozen)
          exact KE.out X2 hX2 _ rfl
        case hstop =>
          rintro D2 c pre X hD2 hpre ⟨rfl, hBX⟩ hK2
          have ke := fun X2 hX2 => ENDS.out D2 X hD2 hBX hK2 X2 hX2
          obtain ⟨h0, h1, h2, h9, hKD, hBw, hsw, hsg⟩ := FACTS.out X hBX
          have kq := eqN_yes ag aw (Ws (bl s)).length cg cw' _ (List.length_map _) X hsg hsw (by rw [List.length_map]; omega)
          have c2 := h2.cell
          have c9 := h9.cell
          have KQ := hide kq
          have KE := hide ke
          have H1 := hide h1
          generalize (Ws (bl s)).length = NW at *
          clear h0 h1 h2 h9 hKD hBw hsw hsg kq ke FACTS ENDS hB2 b11 b6 hK2
          gi_wp2_with (refine ⟨trivial, ?_⟩; gi_at_call 29; refine ((callsIn_wide).2 KQ.out).mono ?_; rintro e X2 ⟨rfl, hX2⟩; have c1 := (below_boxed_t hX2 H1.out).cell; have f1 := (below_boxed_t hX2 H1.out).frozen)
          exact KE.out X2 hX2 _ rfl
end Go.Proofs.Ytfiocfhehofheaa
