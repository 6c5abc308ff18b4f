/- What 'gone' gathers from bits.Words and bits.Lines: the first of the numbers of the words, or of the lines, that a range touches. -/
import Derived.Test.YtjkglimbmfgllaaSeq
namespace Go.Proofs.Ytjkglimbmfgllaa
open Go.RowKit Go.Shelf
set_option linter.unusedVariables false
attribute [local go_sem] Oper.semAt_some

theorem funcs_kept {W w1 : World} {base B : Nat} {v : Value} {k : Nat} {xs : List Value} {tmp : Obj} (hv : Boxed W B 50 v) (hrow : W.ownsRow base 3 1 v k xs) (hgrow : (W.alloc tmp).grownBy w1 v.ownBlock) (v' : Value) :
    ∀ (b : Nat) (c : Array Value) (fr : Nat × Nat), W.heap[b]? = some (.cells c 73 fr) → (w1.setCell ⟨B, 0, none⟩ v').heap[b]? = some (.cells c 73 fr) := by
  intro b c fr hb
  have hlt := (Array.getElem?_eq_some_iff.1 hb).1
  have hne : b ≠ B := fun e => by
    have h : W.heap[B]? = _ := hv
    rw [e, h] at hb
    simp at hb
  rw [Below.heap_setCell _ _ _ _ hne, hgrow.block b (by simp; omega) (fun e => ?_), Below.heap_alloc _ _ _ hlt]
  · exact hb
  · rcases hrow.2 with ⟨rfl, _⟩ | ⟨g, cap, cur, rfl, _, hg, _⟩
    · simp [Value.ownBlock] at e
    · obtain rfl : b = g := by simpa [Value.ownBlock] using e
      rw [hg] at hb
      simp at hb

set_option maxRecDepth 100000 in
set_option maxHeartbeats 2000000 in
theorem gone_x (gf : Nat) (hen : ∀ args w, (callFunc gf args).run Try.prog w = .ok (.enter gf args) w) (lb : Array Value) (xs : List Int) (most : Nat) (hm1 : 1 ≤ most) (hm2 : most ≤ 100000) (w : World)
    (hseq : SeqX w.heap.size gf lb xs w) :
    CallsIn Fence.wide 3 Try.prog 34 #[.func (.func gf) #[] lb, .int .i64 most] w fun e W' => ∃ v, e = .returned v ∧
      W'.ownsRow w.heap.size 3 1 v (xs.take most).length ((xs.take most).map (Value.int .i64)) ∧ Below w.heap.size w W' := by
  have hnil := run_func_eq_nil gf lb
  obtain ⟨i0, hi, hz0, hz1, hz2⟩ := info_parts Try.info3
  refine callsIn_of_wp_marks Try.func34 rfl trivial ?_ rfl
  simp only [Try.ntmps34, List.size_toArray, List.length_cons, List.length_nil, Nat.reduceAdd, Nat.reduceSub, Array.replicate_succ, Array.replicate_zero, List.push_toArray, List.append_toArray, List.nil_append, List.cons_append]
  gi_wp2_with fail
  clear hnil
  have bM := (Boxed.new w 3 (.int .i64 most)).alloc (.cells #[.slice none 0 0] 50)
  have bO := Boxed.new (w.alloc (.cells #[.int .i64 most] 3)) 50 (.slice none 0 0)
  rw [World.size_alloc] at bO
  have hB0 : Below w.heap.size w ((w.alloc (.cells #[.int .i64 most] 3)).alloc (.cells #[.slice none 0 0] 50)) := ((Below.refl _ w).alloc (Nat.le_refl _) _).alloc (by simp) _
  refine rangeX (gf := gf) (lb := lb) rfl hen hseq hB0 (by simp; omega) rfl
    (fun (pre : List Int) W => (∃ v, Boxed W (w.heap.size + 1) 50 v ∧ W.ownsRow (w.heap.size + 2) 3 1 v pre.length (pre.map (Value.int .i64)) ∧ pre.length < most) ∧ (Boxed W w.heap.size 3 (.int .i64 most) ∧ Below w.heap.size w W))
    (fun c (pre : List Int) W => (∃ v, Boxed W (w.heap.size + 1) 50 v ∧ W.ownsRow (w.heap.size + 2) 3 1 v pre.length (pre.map (Value.int .i64)) ∧ (c = .exit 0 ∧ pre.length = most)) ∧ Below w.heap.size w W)
    (OwnFrom.and (Own.from (holdsRow_own (w.heap.size + 2) (w.heap.size + 1) 50 3 1 (fun (pre : List Int) => pre.length) (fun (pre : List Int) => pre.map (Value.int .i64)) (fun (pre : List Int) _ => pre.length < most)) _) (OwnFrom.and (Own.from (boxed_own _ _ (fun _ => _)) _) (ownFrom_below (Nat.le_refl _) (by simp; omega))))
    (fun c => OwnFrom.and (Own.from (holdsRow_own (w.heap.size + 2) (w.heap.size + 1) 50 3 1 (fun (pre : List Int) => pre.length) (fun (pre : List Int) => pre.map (Value.int .i64)) (fun (pre : List Int) _ => c = .exit 0 ∧ pre.length = most)) _) (ownFrom_below (Nat.le_refl _) (by simp; omega)))
    ⟨⟨_, bO, World.ownsRow_nil _ _ _ _, by simp; omega⟩, bM, hB0⟩
    (fun x => { tmps := #[.func (.func gf) #[] lb, .int .i64 most, undef, .pointer (some ⟨w.heap.size, 0, none⟩), .slice none 0 0, .pointer (some ⟨w.heap.size + 1, 0, none⟩), .int .i64 x, .func (.func gf) #[] lb, .bool false, undef, .func (.func gf) #[] lb, .int .i64 x, undef, undef, undef, undef, undef, undef, undef, undef, undef], defers := [] }) ?assign ?body ?done ?stop
  case assign =>
    intro l x W K hK
    gi_wp2
    exact hK
  case body =>
    rintro l pre x W ⟨⟨v, hv, hrow, hlen⟩, hm, hB⟩ hlt
    have hc := hv.cell
    have hcm := hm.cell
    gi_wp2_with (gi_at_builtin; refine wpListIn_append_own _ rfl _ _ 50 rfl (w.heap.size + 2) 3 i0 (.int .i64 0) 1 8 Try.underlying50 hi hz0 hz1 hz2 rfl (by decide) _ _ _ rfl (hrow.alloc _) ⟨W.heap.size, 0, none⟩ 1 1 [.int .i64 x] rfl rfl (cell_one_new _ _ _) (by simp [Value.oneCell']) (by unfold maxLen; omega) (by omega) (by have := hv.lt; simp; omega) ?_; intro v' w1 hown' hgrow _; obtain ⟨g', cap', rfl⟩ := ownsRow_succ hown'; obtain ⟨hv1, hv2, hr2, hk2, hb2, hm2'⟩ := appended2 hv (by decide) hrow hB.size (by omega) (by omega) hm (by omega) (by omega) hown' hgrow; have hf2 := funcs_kept hv hrow hgrow (.slice (some ⟨g', 0, none⟩) (pre.length + 1) cap'); have hc1 := hv1.cell; have hf1 := hv1.frozen; have hc2 := hv2.cell; have hcm2 := hm2'.cell)
    · have hx : (most : Int) ≤ (pre.length : Int) + 1 := by assumption
      exact ⟨hk2.from _, ⟨_, hv2, by simpa using hr2, rfl, by simp; omega⟩, hB.trans hb2⟩
    · have hx : (pre.length : Int) + 1 < (most : Int) := by assumption
      exact ⟨hk2.from _, ⟨hb2, hf2⟩, ⟨_, hv2, by simpa using hr2, by simp; omega⟩, hm2', hB.trans hb2⟩
  case done =>
    rintro D W hD ⟨⟨v, hv, hrow, hlen⟩, hm, hB⟩ hK
    have hc := hv.cell
    gi_wp2
    refine ⟨by simp, .inl ⟨_, _, rfl, run_takeDeferred hK, ?_⟩⟩
    refine ⟨_, results_tmp rfl _ _ _, v, rfl, ?_, hB.trans (belowK_b (w := w) (Nat.le_refl _) W D _ _ (by simp at hD; omega) hK rfl rfl)⟩
    rw [List.take_of_length_le (by omega)]
    exact ownsRow_lower (ownsRow_putObj hrow _ hK rfl) (by omega)
  case stop =>
    rintro D c pre W hD hpre ⟨⟨v, hv, hrow, rfl, hlen⟩, hB⟩ hK
    have hc := hv.cell
    have hpx : xs.take most = pre := by rw [← hlen]; exact (List.prefix_iff_eq_take.1 hpre).symm
    have HP := hide hpx
    clear hpx
    gi_wp2
    refine ⟨by simp, .inl ⟨_, _, rfl, run_takeDeferred hK, ?_⟩⟩
    refine ⟨_, results_tmp rfl _ _ _, v, rfl, ?_, hB.trans (belowK_b (w := w) (Nat.le_refl _) W D _ _ (by simp at hD; omega) hK rfl rfl)⟩
    rw [HP.out]
    exact ownsRow_lower (ownsRow_putObj hrow _ hK rfl) (by omega)


theorem lines_x (n₀ Ba Bn : Nat) (a m : Int) (w : World) (hBa : Ba < w.heap.size) (hBn : Bn < w.heap.size)
    (ca : w.cell? ⟨Ba, 0, none⟩ = some (.int .i64 a)) (cn : w.cell? ⟨Bn, 0, none⟩ = some (.int .i64 m)) (hb1 : -9223372036854775808 ≤ a) (hb2 : a ≤ 9223372036854775807) :
    SeqX n₀ 48 #[.pointer (some ⟨Ba, 0, none⟩), .pointer (some ⟨Bn, 0, none⟩)] (unitsV 64 a m) w := fun l J Jx W hW _ _ hY h0 => by
  have ca' := (hW.cell (p := ⟨Ba, 0, none⟩) hBa).trans ca
  have cn' := (hW.cell (p := ⟨Bn, 0, none⟩) hBn).trans cn
  by_cases hb : a < 0 ∨ m < 1 ∨ 9223372036854775807 - a < m
  · refine (lines1_none Fence.wide 2 trivial rfl l Ba Bn a m (J []) W ca' cn' h0 hb1 hb2 hb).mono ?_
    rintro e W' ⟨he, hJ⟩
    refine ⟨he, .inl ?_⟩
    unfold unitsV
    rw [if_pos hb]
    exact hJ
  · refine (lines1_in Fence.wide 2 trivial rfl (by omega) l Ba Bn a m J Jx (fun pre x W1 h1 _ h3 => (hY pre x W1 h1 h3).mono fun e W' h => by rcases h with h | h; exact .inl ⟨h.1, h.2.1⟩; exact .inr ⟨h.1, h.2.1⟩) W ca' cn' h0 (by omega) (by omega) (by omega)).mono ?_
    rintro e W' ⟨he, h⟩
    refine ⟨he, ?_⟩
    rcases h with ⟨ys, rfl, hJ⟩ | h
    · exact .inl hJ
    · exact .inr h

end Go.Proofs.Ytjkglimbmfgllaa
