/- What 'gone' gathers from an iterator: the first of the numbers that it tells, so many at most, in memory of its own. -/
import Derived.Test.YtjkglimbmfgllaaIter
namespace Go.Proofs.Ytjkglimbmfgllaa
open Go.RowKit Go.Shelf
set_option linter.unusedVariables false
attribute [local go_sem] Oper.semAt_some

theorem Try.info3 : (Try.prog.info? 3).map (fun i => (i.zero, i.size, i.bytes)) = some (some (.int .i64 0), 1, 8) := by kernel_rfl

theorem ownsRow_lower {W : World} {base base' : Nat} {e : TypeId} {size : Nat} {v : Value} {k : Nat} {xs : List Value} (h : W.ownsRow base e size v k xs) (hb : base' ≤ base) : W.ownsRow base' e size v k xs := by
  refine ⟨h.1, ?_⟩
  rcases h.2 with h2 | ⟨g, cap, cur, hv, hg, r⟩
  · exact .inl h2
  · exact .inr ⟨g, cap, cur, hv, Nat.le_trans hb hg, r⟩

/-- 'out = append(out, x)', out in a box: what lies behind it. -/
theorem appended2 {W w1 : World} {n₀ base B S : Nat} {t e u : TypeId} {size : Nat} {v v' m : Value} {k k' : Nat} {xs ys : List Value} {tmp : Obj}
    (hv : Boxed W B t v) (hte : t ≠ e) (hrow : W.ownsRow base e size v k xs) (hn₀ : n₀ ≤ W.heap.size) (hB : n₀ ≤ B) (hbn : n₀ ≤ base)
    (hm : Boxed W S u m) (hSb : S < base) (hSB : S ≠ B)
    (hown' : w1.ownsRow base e size v' k' ys) (hgrow : (W.alloc tmp).grownBy w1 v.ownBlock) :
    Boxed w1 B t v ∧ Boxed (w1.setCell ⟨B, 0, none⟩ v') B t v' ∧ (w1.setCell ⟨B, 0, none⟩ v').ownsRow base e size v' k' ys ∧ KeepsOthers W (w1.setCell ⟨B, 0, none⟩ v') ∧ Below n₀ W (w1.setCell ⟨B, 0, none⟩ v') ∧
      Boxed (w1.setCell ⟨B, 0, none⟩ v') S u m := by
  have hv1 : Boxed w1 B t v := (hv.alloc tmp).kept hgrow (hv.not_row hte hrow)
  refine ⟨hv1, hv1.set v', hown'.kept (grownBy_setCell' w1 B v') (.inr (hv1.not_row hte hown').symm), ?_, ?_, ?_⟩
  · refine ((KeepsOthers.alloc W tmp).trans (KeepsOthers.of_grownBy hgrow fun j o ej hj => ?_)).trans (KeepsOthers.setCell _ _ _)
    rcases (hrow.alloc tmp).2 with ⟨rfl, _⟩ | ⟨g, cap, cur, rfl, _, hgb, _⟩
    · simp [Value.ownBlock] at ej
    · obtain rfl : g = j := by simpa [Value.ownBlock] using ej
      rw [hgb] at hj; cases hj; rfl
  · refine (((Below.refl n₀ W).alloc hn₀ tmp).grown hgrow (by simp; omega) fun j ej => ?_).setCell (p := ⟨B, 0, none⟩) hB v'
    rcases hrow.2 with ⟨rfl, _⟩ | ⟨g, cap, cur, rfl, hb, _, _⟩
    · simp [Value.ownBlock] at ej
    · obtain rfl : g = j := by simpa [Value.ownBlock] using ej
      omega
  · refine ((hm.alloc tmp).kept hgrow fun ej => ?_).other hSB v'
    rcases hrow.2 with ⟨rfl, _⟩ | ⟨g, cap, cur, rfl, hb, _, _⟩
    · simp [Value.ownBlock] at ej
    · obtain rfl : S = g := by simpa [Value.ownBlock] using ej
      omega

theorem run_func_eq_nil (gf : Nat) (lb : Array Value) (w : World) : Sem.run Try.prog (binOp BinOp.eql 48 (Value.func (Fn.func gf) #[] lb) Value.nilFunc) w = .ok (.bool false) w := by
  rfl

set_option maxRecDepth 100000 in
set_option maxHeartbeats 2000000 in
theorem gone_in (F : Fence) (n : Nat) (h3 : F.fn 34) (gf : Nat) (hgf : F.fn gf) (hen : ∀ args w, (callFunc gf args).run Try.prog w = .ok (.enter gf args) w) (hro : F.round = none) (hn : 3 ≤ n)
    (lb : Array Value) (xs : List Int) (most : Nat) (hm1 : 1 ≤ most) (hm2 : most ≤ 100000) (w : World)
    (hseq : SeqStopsK F (n - 1) Try.prog gf lb (fun x : Int => #[Value.int .i64 x]) (Below w.heap.size) (fun ys => ys = xs) (fun pre => pre <+: xs) xs.length w) :
    CallsIn F n Try.prog 34 #[.func (.func gf) #[] lb, .int .i64 most] w fun e W' => ∃ v, e = .returned v ∧
      W'.ownsRow w.heap.size 3 1 v (xs.take most).length ((xs.take most).map (Value.int .i64)) ∧ Below w.heap.size w W' := by
  have h1 : 1 ≤ n := by omega
  have hnil := run_func_eq_nil gf lb
  obtain ⟨i0, hi, hz0, hz1, hz2⟩ := info_parts Try.info3
  refine callsIn_of_wp_marks Try.func34 rfl h3 ?_ hro
  simp only [Try.ntmps34, List.size_toArray, List.length_cons, List.length_nil, Nat.reduceAdd, Nat.reduceSub, Array.replicate_succ, Array.replicate_zero, List.push_toArray, List.append_toArray, List.nil_append, List.cons_append]
  gi_wp2_with fail
  clear hnil
  have bM := (Boxed.new w 3 (.int .i64 most)).alloc (.cells #[.slice none 0 0] 50)
  have bO := Boxed.new (w.alloc (.cells #[.int .i64 most] 3)) 50 (.slice none 0 0)
  rw [World.size_alloc] at bO
  have hB0 : Below w.heap.size w ((w.alloc (.cells #[.int .i64 most] 3)).alloc (.cells #[.slice none 0 0] 50)) := ((Below.refl _ w).alloc (Nat.le_refl _) _).alloc (by simp) _
  refine wpIn_rangeFunc_ownG hro h1 (gf := gf) (lb := lb) rfl hgf hen hseq belowK_t (belowK_b (by simp; omega)) hB0 (fun _ => rfl)
    (fun (pre : List Int) W => (∃ v, Boxed W (w.heap.size + 1) 50 v ∧ W.ownsRow (w.heap.size + 2) 3 1 v pre.length (pre.map (Value.int .i64)) ∧ pre.length < most) ∧ (Boxed W w.heap.size 3 (.int .i64 most) ∧ Below w.heap.size w W))
    (fun c (pre : List Int) W => (∃ v, Boxed W (w.heap.size + 1) 50 v ∧ W.ownsRow (w.heap.size + 2) 3 1 v pre.length (pre.map (Value.int .i64)) ∧ (c = .exit 0 ∧ pre.length = most)) ∧ Below w.heap.size w W)
    (OwnFrom.and (Own.from (holdsRow_own (w.heap.size + 2) (w.heap.size + 1) 50 3 1 (fun (pre : List Int) => pre.length) (fun (pre : List Int) => pre.map (Value.int .i64)) (fun (pre : List Int) _ => pre.length < most)) _) (OwnFrom.and (Own.from (boxed_own _ _ (fun _ => _)) _) (ownFrom_below (Nat.le_refl _) (by simp; omega))))
    (fun c => OwnFrom.and (Own.from (holdsRow_own (w.heap.size + 2) (w.heap.size + 1) 50 3 1 (fun (pre : List Int) => pre.length) (fun (pre : List Int) => pre.map (Value.int .i64)) (fun (pre : List Int) _ => c = .exit 0 ∧ pre.length = most)) _) (ownFrom_below (Nat.le_refl _) (by simp; omega)))
    ⟨⟨_, bO, World.ownsRow_nil _ _ _ _, by simp; omega⟩, bM, hB0⟩
    (fun x => { tmps := #[.func (.func gf) #[] lb, .int .i64 most, undef, .pointer (some ⟨w.heap.size, 0, none⟩), .slice none 0 0, .pointer (some ⟨w.heap.size + 1, 0, none⟩), .int .i64 x, .func (.func gf) #[] lb, .bool false, undef, .func (.func gf) #[] lb, .int .i64 x, undef, undef, undef, undef, undef, undef, undef, undef, undef], defers := [] }) ?assign ?body ?done ?stop
  case assign =>
    intro l x W K hK
    gi_wp2
    exact hK
  case body =>
    rintro l pre x W ⟨⟨v, hv, hrow, hlen⟩, hm, hB⟩ hlt
    have hc := hv.cell
    have hcm := hm.cell
    gi_wp2_with (gi_at_builtin; refine wpListIn_append_own _ rfl _ _ 50 rfl (w.heap.size + 2) 3 i0 (.int .i64 0) 1 8 Try.underlying50 hi hz0 hz1 hz2 rfl (by decide) _ _ _ rfl (hrow.alloc _) ⟨W.heap.size, 0, none⟩ 1 1 [.int .i64 x] rfl rfl (cell_one_new _ _ _) (by simp [Value.oneCell']) (by unfold maxLen; omega) (by omega) (by have := hv.lt; simp; omega) ?_; intro v' w1 hown' hgrow _; obtain ⟨g', cap', rfl⟩ := ownsRow_succ hown'; obtain ⟨hv1, hv2, hr2, hk2, hb2, hm2'⟩ := appended2 hv (by decide) hrow hB.size (by omega) (by omega) hm (by omega) (by omega) hown' hgrow; have hc1 := hv1.cell; have hf1 := hv1.frozen; have hc2 := hv2.cell; have hcm2 := hm2'.cell)
    · have hx : (most : Int) ≤ (pre.length : Int) + 1 := by assumption
      exact ⟨hk2.from _, ⟨_, hv2, by simpa using hr2, rfl, by simp; omega⟩, hB.trans hb2⟩
    · have hx : (pre.length : Int) + 1 < (most : Int) := by assumption
      exact ⟨hk2.from _, hb2, ⟨_, hv2, by simpa using hr2, by simp; omega⟩, hm2', hB.trans hb2⟩
  case done =>
    rintro D ys W hD rfl ⟨⟨v, hv, hrow, hlen⟩, hm, hB⟩ hK
    have hc := hv.cell
    gi_wp2
    refine ⟨by simp, .inl ⟨_, _, rfl, run_takeDeferred hK, ?_⟩⟩
    refine ⟨_, results_tmp rfl _ _ _, v, rfl, ?_, hB.trans (belowK_b (w := w) (Nat.le_refl _) W D _ _ (by simp at hD; omega) hK rfl rfl)⟩
    rw [List.take_of_length_le (by omega)]
    exact ownsRow_lower (ownsRow_putObj hrow _ hK rfl) (by omega)
  case stop =>
    rintro D c pre W hD hpre ⟨⟨v, hv, hrow, rfl, hlen⟩, hB⟩ hK
    have hc := hv.cell
    have hpx : xs.take most = pre := by rw [← hlen]; exact (List.prefix_iff_eq_take.1 hpre).symm
    have HP := hide hpx
    clear hpx
    gi_wp2
    refine ⟨by simp, .inl ⟨_, _, rfl, run_takeDeferred hK, ?_⟩⟩
    refine ⟨_, results_tmp rfl _ _ _, v, rfl, ?_, hB.trans (belowK_b (w := w) (Nat.le_refl _) W D _ _ (by simp at hD; omega) hK rfl rfl)⟩
    rw [HP.out]
    exact ownsRow_lower (ownsRow_putObj hrow _ hK rfl) (by omega)

/-- 'gone(bits.Lines(at, n), most)', out of any fence. -/
theorem gone_lines (a m : Int) (most : Nat) (hm1 : 1 ≤ most) (hm2 : most ≤ 100000) (hb1 : -9223372036854775808 ≤ a) (hb2 : a ≤ 9223372036854775807) (Ba Bn : Nat) (w : World) (hBa : Ba < w.heap.size) (hBn : Bn < w.heap.size)
    (ca : w.cell? ⟨Ba, 0, none⟩ = some (.int .i64 a)) (cn : w.cell? ⟨Bn, 0, none⟩ = some (.int .i64 m)) :
    Calls Try.prog 34 #[.func (.func 48) #[] #[.pointer (some ⟨Ba, 0, none⟩), .pointer (some ⟨Bn, 0, none⟩)], .int .i64 most] w fun e W' => ∃ v, e = .returned v ∧
      W'.ownsRow w.heap.size 3 1 v ((unitsV 64 a m).take most).length (((unitsV 64 a m).take most).map (Value.int .i64)) ∧ Below w.heap.size w W' :=
  (callsIn_wide (n := 3)).1 (gone_in Fence.wide 3 trivial 48 trivial (enters_of Try.func48 (by kernel_rfl) rfl) rfl (by omega) _ (unitsV 64 a m) most hm1 hm2 w
    (lines_stops Fence.wide 2 trivial rfl (by omega) Ba Bn w.heap.size a m w hBa hBn ca cn hb1 hb2))

theorem lines_any (a m : Int) (w : World) :
    Calls Try.prog 35 #[.int .i64 a, .int .i64 m] w fun e w' => e = .returned (.func (.func 48) #[] #[.pointer (some ⟨w.heap.size, 0, none⟩), .pointer (some ⟨w.heap.size + 1, 0, none⟩)]) ∧
      w' = (w.alloc (.cells #[.int .i64 a] 3)).alloc (.cells #[.int .i64 m] 3) :=
  (callsIn_wide (n := 3)).1 (lines_in Fence.wide 3 trivial rfl a m w)

end Go.Proofs.Ytjkglimbmfgllaa
