/- Package super: Line. -/
import Derived.Test.YtmlhibkofalamaaZEq
namespace Go.Proofs.Ytmlhibkofalamaa
open Go.RowKit Go.Shelf
set_option linter.unusedVariables false

/-- A line of a package's own, its bytes. -/
def OwnL (w : World) (g : Nat) (bs : List Nat) : Prop := w.heap[g]? = some (.cells (bs.map B8).toArray 73 (0, 0))
theorem OwnL.sl {w : World} {g : Nat} {bs : List Nat} (h : OwnL w g bs) (hx : ∀ x ∈ bs, x < 256) : Sl w (some ⟨g, 0, none⟩) bs := by
  refine .inr ⟨g, 0, rfl, lt_of_heap h, fun i y hy => ⟨?_, hx y (List.mem_of_getElem? hy)⟩⟩
  rw [Nat.zero_add, cell8 h]
  simp [hy, B8]
theorem suBox {W : World} {g : Nat} {a b c d e : Int} (h : W.heap[g]? = some (.cells #[.int .i64 a, .int .i64 b, .int .i64 c, .int .i64 d, .int .i64 e] 36 (0, 0))) :
    W.cell? ⟨g, 0, none⟩ = some (.int .i64 a) ∧ W.cell? ⟨g, 1, none⟩ = some (.int .i64 b) ∧ W.cell? ⟨g, 2, none⟩ = some (.int .i64 c) ∧ W.cell? ⟨g, 3, none⟩ = some (.int .i64 d) ∧ W.cell? ⟨g, 4, none⟩ = some (.int .i64 e) :=
  ⟨cell_of h 0 _ rfl, cell_of h 1 _ rfl, cell_of h 2 _ rfl, cell_of h 3 _ rfl, cell_of h 4 _ rfl⟩
set_option maxRecDepth 100000 in
set_option maxHeartbeats 300000 in
theorem line_ok (x : Int) (w : World) (h : okS x) :
    Calls Try.prog 26 #[.agg (plC x)] w fun e w' => ∃ g, e = .returned (.tuple #[.slice (some ⟨g, 0, none⟩) 64 64, .int .i64 0]) ∧ OwnL w' g (sbX x) ∧ w.heap.size ≤ g ∧ Below w.heap.size w w' := by
  obtain ⟨Z, hzl, hz⟩ := zero_line
  have kp : ∀ W, Calls Try.prog 25 #[.int .i64 x] W fun e w' => e = .returned (.tuple #[.agg #[.int .i64 x, .int .i64 128, .int .i64 32768, .int .i64 32896, .int .i64 ((x - 32896) / 256)], .int .i64 0]) ∧ Below W.heap.size W w' := fun W => plan_ok x W h
  have kb := fun W => block_any x W h
  have hsl := sbX_len x
  generalize sbX x = sb at *
  unfold plC suC
  generalize (x - 32896) / 256 = q at *
  have HSL := hide hsl
  have KP := hide kp
  have KB := hide kb
  have HZ := hide hz
  have HZL := hide hzl
  have hg := Try.noGuard36
  have he := fun W => eql_su x 128 32768 32896 q x 128 32768 32896 q W
  have hs : sameS x 128 32768 32896 q x 128 32768 32896 q = true := by simp [sameS]
  rw [hs] at he
  have sl := fun g W => slice_line g W
  have SI := hide (show (Try.prog.info? 73).map (·.size) = some (sb.map B8).toArray.size by rw [List.size_toArray, List.length_map, HSL.out]; kernel_rfl)
  have S1 := hide (all_oneCell_toArray (B8_cell sb))
  clear kp kb hz hzl h hs hsl
  go_enter Try.func26, Try.ntmps26
  go_upto_region 4 with ((go_at_call 25; refine (KP.out _).mono ?_; rintro e W1 ⟨rfl, hB1⟩; have hb0 := row_after hB1; obtain ⟨c0, c1, c2, c3, c4⟩ := suBox hb0; obtain ⟨k0, k1, k2, k3, k4⟩ := suBox (row_keep hb0 ((Below.refl _ W1).alloc (Nat.le_refl _) (.cells #[.int .i64 x, .int .i64 128, .int .i64 32768, .int .i64 32896, .int .i64 q] 36))); have HB1 := hide (((Below.refl _ w).alloc (Nat.le_refl _) (.cells #[.int .i64 x, .int .i64 128, .int .i64 32768, .int .i64 32896, .int .i64 q] 36)).trans (hB1.mono (by simp))); have HB0 := hide hb0; clear hB1 hb0))
  go_wp2_with (first
    | (go_at_call 29; refine (KB.out _).mono ?_; rintro e W2 ⟨rfl, hB2⟩; have HB2 := hide hB2; have TH := hide (there_row (heap_alloc_new W2 (.cells Z.toArray 73)) 0 (sb.map B8).toArray.size (by rw [List.size_toArray, List.length_map, HSL.out, HZL.out]; omega)); clear hB2)
    | (refine wpList_alloc_row rfl 73 rfl Z (HZ.out _) ?_)
    | (refine wpList_store_mid rfl 73 (.tmp 6) (.tmp 21) rfl W2.heap.size 0 (sb.map B8).toArray (by kernel_rfl) (by kernel_rfl) TH.out SI.out S1.out ?_))
  try go_frame
  go_ret2
  have hh : ((W2.alloc (.cells Z.toArray 73)).setCells W2.heap.size 0 (sb.map B8)).heap[W2.heap.size]? = some (.cells (sb.map B8).toArray 73 (0, 0)) := by
    rw [heap_setCells W2.heap.size _ (sb.map B8) 0 _ Z (heap_alloc_new W2 _) (by rw [List.length_map, HSL.out, HZL.out]; omega)]
    simp [splice, HSL.out, HZL.out]
  have h5 : Gr (fun k => k = W2.heap.size) (W2.alloc (.cells Z.toArray 73)) ((W2.alloc (.cells Z.toArray 73)).setCells W2.heap.size 0 (sb.map B8)) := Gr.setCells _ W2.heap.size _ _ rfl
  have h6 : Below w.heap.size w (W1.alloc (.cells #[.int .i64 x, .int .i64 128, .int .i64 32768, .int .i64 32896, .int .i64 q] 36)) := HB1.out.alloc HB1.out.size _
  have h7 : Below w.heap.size w (W2.alloc (.cells Z.toArray 73)) := (h6.trans (HB2.out.mono h6.size)).alloc (Nat.le_trans h6.size HB2.out.size) _
  have h8 : w.heap.size ≤ W2.heap.size := Nat.le_trans h6.size HB2.out.size
  exact ⟨_, rfl, hh, h8, h5.1.trans h7.os, h5.2.1.trans h7.tape, h5.2.2.1.trans h7.output, Nat.le_trans h7.size h5.size, fun k hk => (h5.block (Nat.lt_of_lt_of_le hk h7.size) (by omega)).trans (h7.block k hk)⟩
/-- A plan that is its size's. -/
def isPl (a b c d e : Int) : Prop := okS a ∧ b = 128 ∧ c = 32768 ∧ d = 32896 ∧ e = (a - 32896) / 256
set_option maxHeartbeats 400000 in
theorem line_no (a b c d e : Int) (w : World) (ha : -9223372036854775808 ≤ a) (ha' : a ≤ 9223372036854775807) (h : ¬ isPl a b c d e) :
    Calls Try.prog 26 #[.agg (suC a b c d e)] w fun r w' => r = .returned (.tuple #[.slice none 0 0, .int .i64 100]) ∧ Below w.heap.size w w' := by
  unfold suC
  by_cases hk : okS a
  · have hne : sameS a 128 32768 32896 ((a - 32896) / 256) a b c d e = false := by
      unfold sameS
      refine decide_eq_false fun hh => h ⟨hk, ?_⟩
      omega
    have kp : ∀ W, Calls Try.prog 25 #[.int .i64 a] W fun r w' => r = .returned (.tuple #[.agg #[.int .i64 a, .int .i64 128, .int .i64 32768, .int .i64 32896, .int .i64 ((a - 32896) / 256)], .int .i64 0]) ∧ Below W.heap.size W w' := fun W => plan_ok a W hk
    generalize (a - 32896) / 256 = q at *
    have hg := Try.noGuard36
    have he := fun W => eql_su a 128 32768 32896 q a b c d e W
    rw [hne] at he
    have KP := hide kp
    clear kp hk h hne
    go_enter Try.func26, Try.ntmps26
    go_wp2_with (go_at_call 25; refine (KP.out _).mono ?_; rintro r W1 ⟨rfl, hB1⟩; have hb0 := row_after hB1; obtain ⟨c0, c1, c2, c3, c4⟩ := suBox hb0; obtain ⟨k0, k1, k2, k3, k4⟩ := suBox (row_keep hb0 ((Below.refl _ W1).alloc (Nat.le_refl _) (.cells #[.int .i64 a, .int .i64 128, .int .i64 32768, .int .i64 32896, .int .i64 q] 36))); have HB1 := hide (((Below.refl _ w).alloc (Nat.le_refl _) (.cells #[.int .i64 a, .int .i64 b, .int .i64 c, .int .i64 d, .int .i64 e] 36)).trans (hB1.mono (by simp))); clear hB1 hb0)
    go_ret2
    exact ⟨rfl, HB1.out.alloc HB1.out.size _⟩
  · have kp : ∀ W, Calls Try.prog 25 #[.int .i64 a] W fun r w' => r = .returned (.tuple #[.agg #[.int .i64 0, .int .i64 0, .int .i64 0, .int .i64 0, .int .i64 0], .int .i64 80]) ∧ Below W.heap.size W w' := fun W => plan_no a W ha ha' hk
    have KP := hide kp
    clear kp hk h
    go_enter Try.func26, Try.ntmps26
    go_wp2_with (go_at_call 25; refine (KP.out _).mono ?_; rintro r W1 ⟨rfl, hB1⟩; have hb0 := row_after hB1; have HB1 := hide (((Below.refl _ w).alloc (Nat.le_refl _) (.cells #[.int .i64 a, .int .i64 b, .int .i64 c, .int .i64 d, .int .i64 e] 36)).trans (hB1.mono (by simp))); clear hB1 hb0)
    go_ret2
    exact ⟨rfl, HB1.out.alloc HB1.out.size _⟩
end Go.Proofs.Ytmlhibkofalamaa
