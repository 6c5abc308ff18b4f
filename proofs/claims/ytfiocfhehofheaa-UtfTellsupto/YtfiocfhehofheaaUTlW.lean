/- The road of UtfTells: what the iterators tell of a text, twice, and left early. -/
import Derived.Test.YtfiocfhehofheaaUTl
import Derived.Test.YtfiocfhehofheaaUAwake
import Derived.Test.YtfiocfhehofheaaLAll
import Derived.Test.YtfiocfhehofheaaKBk
import Derived.LoopNIn
namespace Go.Proofs.Ytfiocfhehofheaa.utfTells
open Go.RowKit Go.Shelf Go.Proofs.Ytfiocfhehofheaa
set_option linter.unusedVariables false
attribute [local go_sem] Oper.semAt_some

theorem Stab.at {β : Type} {H : TypeId → Prop} {B b : Nat} (o : Obj) (hb : b < B) : Stab H B (fun (_ : β) W => W.heap[b]? = some o) := fun s W W' hJ hs => hs.2 b _ hJ (.inl hb)

set_option maxRecDepth 100000 in
set_option maxHeartbeats 4000000 in
theorem road (s : ByteArray) (stop : Int) (w : World) (hs : s.size ≤ 1048576) :
    Calls Try.prog 3 #[.string s, .int .i64 stop] w fun e w' => e = .returned (.bool true) ∧ Below w.heap.size w w' := by
  have hll := Cs_len_le (bl s)
  rw [bl_len] at hll
  have kc := fun w' => chars_any s w' hs
  have kw := fun a cap w' h => wrong_any s a cap stop w' hs h
  obtain ⟨N, hN⟩ : ∃ N, (Cs 0 (bl s)).length = N := ⟨_, rfl⟩
  have HN := hide hN
  rw [hN] at hll kc kw
  have KC := hide kc
  have KW := hide kw
  clear kc kw hN
  refine (callsIn_wide (n := 3)).1 ?_
  refine callsIn_of_wp_marks Try.func3 rfl trivial ?_ rfl
  simp only [Try.ntmps3, List.size_toArray, List.length_cons, List.length_nil, Nat.reduceAdd, Nat.reduceSub, Array.replicate_succ, Array.replicate_zero, List.push_toArray, List.append_toArray, List.nil_append, List.cons_append]
  gi_wp2_with (first | (refine ⟨trivial, ?_⟩; gi_at_call 6; refine ((callsIn_wide).2 (awake_any _)).mono ?_; rintro e w1 ⟨rfl, hB1⟩) | (refine ⟨trivial, ?_⟩; gi_at_call 7; refine ((callsIn_wide).2 (KC.out _)).mono ?_; rintro e w2 ⟨a, cap, rfl, hsl, hB2⟩))
  have hBx : Below w.heap.size w ((w.alloc (.cells #[.int .i64 stop] 3)).alloc (.cells #[.bool false] 4)) := ((Below.refl _ w).alloc (Nat.le_refl _) _).alloc (by simp) _
  have b0 := (Boxed.new w 3 (.int .i64 stop)).alloc (.cells #[.bool false] 4)
  have b1 := Boxed.new (w.alloc (.cells #[.int .i64 stop] 3)) 4 (.bool false)
  simp only [World.size_alloc] at b1
  have hB12 := bseq hB1 hB2
  replace b0 := ((below_boxed_t hB12 b0).alloc (.cells #[.slice a N cap] 23)).alloc (.cells #[.int .i64 0] 3)
  replace b1 := ((below_boxed_t hB12 b1).alloc (.cells #[.slice a N cap] 23)).alloc (.cells #[.int .i64 0] 3)
  have b2 := (Boxed.new w2 23 (.slice a N cap)).alloc (.cells #[.int .i64 0] 3)
  have b3 := Boxed.new (w2.alloc (.cells #[.slice a N cap] 23)) 3 (.int .i64 0)
  simp only [World.size_alloc] at b3
  have hBy : Below w2.heap.size w2 ((w2.alloc (.cells #[.slice a N cap] 23)).alloc (.cells #[.int .i64 0] 3)) := ((Below.refl _ w2).alloc (Nat.le_refl _) _).alloc (by simp) _
  have hsl0 := hsl.below hBy
  have hB0 := bseq (bseq hBx hB12) hBy
  have hw2 : w.heap.size + 2 ≤ w2.heap.size := by have := hB12.size; simp at this; omega
  generalize (w2.alloc (.cells #[.slice a N cap] 23)).alloc (.cells #[.int .i64 0] 3) = W0 at *
  clear hBx hB1 hB2 hB12 hBy hsl
  refine wpIn_loop_rounds 3 ?_
  rw [roundsIn_succ]
  have c3 := b3.cell
  gi_wp2_with (refine ⟨trivial, ?_⟩; gi_at_call 8; refine (uall_in s _).mono ?_; rintro e w' ⟨rfl, rfl⟩)
  clear c3
  have facts : ∀ X, Below W0.heap.size W0 X → Boxed X w.heap.size 3 (.int .i64 stop) ∧ Boxed X (w.heap.size + 1) 4 (.bool false) ∧ Boxed X w2.heap.size 23 (.slice a N cap) ∧ Boxed X (w2.heap.size + 1) 3 (.int .i64 0) ∧ SlC X a (Cs 0 (bl s)) ∧ Below w.heap.size w X ∧ ∀ D ∈ ([] : List Nat), w.heap.size + 2 ≤ D ∧ X.heap[D]? = some (.deferred (some [])) := fun X hX => by
    refine ⟨below_boxed_t hX b0, below_boxed_t hX b1, below_boxed_t hX b2, below_boxed_t hX b3, (hsl0.below hX), bseq hB0 hX, fun D hD => by cases hD⟩
  have FW0 := hide facts
  clear facts b0 b1 b2 b3 hsl0 hB0
  have bn := (Boxed.new W0 3 (.int .i64 0)).alloc (.cells #[.string s] 9)
  have bs := Boxed.new (W0.alloc (.cells #[.int .i64 0] 3)) 9 (.string s)
  have hBn : Below W0.heap.size W0 ((W0.alloc (.cells #[.int .i64 0] 3)).alloc (.cells #[.string s] 9)) := ((Below.refl _ W0).alloc (Nat.le_refl _) _).alloc (by simp) _
  have hszn : ((W0.alloc (.cells #[.int .i64 0] 3)).alloc (.cells #[.string s] 9)).heap.size = W0.heap.size + 2 := by simp
  simp only [World.size_alloc] at bs
  generalize (W0.alloc (.cells #[.int .i64 0] 3)).alloc (.cells #[.string s] 9) = WA at *
  apply rangeX (gf := 27) (lb := #[.pointer (some ⟨W0.heap.size + 1, 0, none⟩)]) (encs := encC) rfl (enters_of Try.func27 (by kernel_rfl) rfl)
    (uall_x (fun _ => False) (fun k => k = W0.heap.size + 1) (W0.heap.size + 1) s WA (by omega) (by omega) bs.cell) (Below.refl _ _) (fun k h => by omega) (fun _ => rfl)
    (fun pre X => Boxed X W0.heap.size 3 (.int .i64 (pre.length : Int)) ∧ Below W0.heap.size W0 X)
    (fun c pre X => (c = .exit 2 ∧ ((0 : Int) = 1 ∧ ((pre.length : Int) = stop ∧ Boxed X W0.heap.size 3 (.int .i64 (pre.length : Int))))) ∧ Below W0.heap.size W0 X)
    (Stab.and (Stab.boxed _ _ (by omega)) (Stab.below (by omega) (Nat.le_refl _)))
    (fun c => Stab.and (Stab.and (Stab.pure _) (Stab.and (Stab.pure _) (Stab.and (Stab.pure _) (Stab.boxed _ _ (by omega))))) (Stab.below (by omega) (Nat.le_refl _)))
    ⟨bn, hBn⟩
  case hassign =>
    intro l' x X K hK
    simp only [encC]
    gi_wp2
    exact hK
  case hbody =>
    rintro l' pre x X ⟨hn, hBX⟩ hpx
    obtain ⟨hpl, hget⟩ := take_of_preT hpx
    obtain ⟨h0, h1, h2, h3, hsl, hBw, -⟩ := FW0.out X hBX
    obtain ⟨b, rfl, -, hcl⟩ : ∃ b, a = some ⟨b, 0, none⟩ ∧ b < X.heap.size ∧ ∀ (i : Nat) (e : Nat × Nat × Nat), (Cs 0 (bl s))[i]? = some e →
        X.cell? ⟨b, i * 4, none⟩ = some (.int .i64 (e.1 : Int)) ∧ X.cell? ⟨b, i * 4 + 1, none⟩ = some (.int .i32 (e.2.1 : Int)) ∧ X.cell? ⟨b, i * 4 + 2, none⟩ = some (.int .i64 (e.2.2 : Int)) ∧ X.cell? ⟨b, i * 4 + 3, none⟩ = some (.bool (rightE e)) := by
      rcases hsl with h | h
      · rw [h] at hget; cases hget
      · exact h
    obtain ⟨y0, y1, -, -⟩ := hcl _ _ hget
    have hlw := (Array.getElem?_eq_some_iff.1 (show _ = some _ from (FW0.out W0 (Below.refl _ _)).1)).1
    have hlt := (Array.getElem?_eq_some_iff.1 (show _ = some _ from (FW0.out W0 (Below.refl _ _)).2.2.2.1)).1
    have cn := hn.cell
    have fn' := hn.frozen
    have c2 := h2.cell
    have cn' := (hn.set (.int .i64 ((pre.length : Int) + 1))).cell
    have c0' := (h0.other (B' := W0.heap.size) (by omega) (.int .i64 ((pre.length : Int) + 1))).cell
    have c3' := (h3.other (B' := W0.heap.size) (by omega) (.int .i64 ((pre.length : Int) + 1))).cell
    rw [HN.out] at hpl
    have hltI : (pre.length : Int) < (N : Int) := by omega
    have hNI : (N : Int) ≤ 1048576 := by omega
    have hne : ((x.1 : Int) != (x.1 : Int)) = false := by simp
    have hne2 : ((x.2.1 : Int) != (x.2.1 : Int)) = false := by simp
    have HX := hide (And.intro hn hBX)
    clear hcl hsl h0 h1 h2 h3 hBw hn hBX hget hpx hBn bn bs
    gi_wp2
    obtain ⟨hn, hBX⟩ := HX.out
    refine ⟨Kp.set _ (fun h => by omega) (by omega), ?_, hBX.setCell (p := ⟨W0.heap.size, 0, none⟩) (Nat.le_refl _) _⟩
    have := hn.set (.int .i64 ((pre.length : Int) + 1))
    simpa using this
  case hdone =>
    rintro DA0 XA0 hDDA0 ⟨hn, hBX⟩ hK
    rw [HN.out] at hn
    have hnn : (((N : Int) != (N : Int)) = false) := by simp
    clear bn hBn bs
    obtain ⟨h0, h1, h2, h3, hsl, hBw, hDs⟩ := FW0.out XA0 hBX
    have cn := hn.cell
    have fn' := hn.frozen
    have c2 := h2.cell
    have c3 := h3.cell
    have c0 := h0.cell
    have hlD := (Array.getElem?_eq_some_iff.1 hK).1
    have HK := hide (And.intro hK (And.intro hn hBX))
    clear hK hn hBX h0 h1 h2 h3 hsl hBw hDs
    gi_wp2_with (refine ⟨trivial, ?_⟩; gi_at_call 9; refine (uback_in s _).mono ?_; rintro e w' ⟨rfl, rfl⟩)
    obtain ⟨hK, hn, hBX⟩ := HK.out
    have hszX : (XA0.setCell ⟨W0.heap.size, 0, none⟩ (.int .i64 0)).heap.size = XA0.heap.size := by simp [World.setCell]
    have bn := (hn.set (.int .i64 0)).alloc (.cells #[.string s] 9)
    have bs := Boxed.new (XA0.setCell ⟨W0.heap.size, 0, none⟩ (.int .i64 0)) 9 (.string s)
    have hlWX := hBX.size
    have hBn : Below W0.heap.size W0 ((XA0.setCell ⟨W0.heap.size, 0, none⟩ (.int .i64 0)).alloc (.cells #[.string s] 9)) := (hBX.setCell (p := ⟨W0.heap.size, 0, none⟩) (Nat.le_refl _) _).alloc (by omega) _
    have hszn : ((XA0.setCell ⟨W0.heap.size, 0, none⟩ (.int .i64 0)).alloc (.cells #[.string s] 9)).heap.size = XA0.heap.size + 1 := by rw [World.size_alloc, hszX]
    have hKs : ((XA0.setCell ⟨W0.heap.size, 0, none⟩ (.int .i64 0)).alloc (.cells #[.string s] 9)).heap[DA0]? = some (.deferred (some [])) := by
      have e1 : (XA0.setCell ⟨W0.heap.size, 0, none⟩ (.int .i64 0)).heap[DA0]? = some (.deferred (some [])) := ((grownBy_setCell' XA0 W0.heap.size (.int .i64 0)).block DA0 hlD (fun e => by cases e; omega)).trans hK
      exact ((Below.refl _ _).alloc (Nat.le_refl _) _ : Below _ _ _).block DA0 (Array.getElem?_eq_some_iff.1 e1).1 |>.trans e1
    rw [hszX] at bs
    try simp only [hszX]
    generalize (XA0.setCell ⟨W0.heap.size, 0, none⟩ (.int .i64 0)).alloc (.cells #[.string s] 9) = WB at *
    clear hK hn hBX hszX HK
    apply rangeX (gf := 28) (lb := #[.pointer (some ⟨XA0.heap.size, 0, none⟩)]) (encs := encC) rfl (enters_of Try.func28 (by kernel_rfl) rfl)
      (uback_x (fun _ => False) (fun k => k = XA0.heap.size) XA0.heap.size s WB (by omega) rfl (by omega) bs.cell) (Below.refl _ _) (fun k h => by omega) (fun _ => rfl)
      (fun pre Y => (Boxed Y W0.heap.size 3 (.int .i64 (pre.length : Int)) ∧ Y.heap[DA0]? = some (.deferred (some []))) ∧ Below W0.heap.size W0 Y)
      (fun c pre Y => (c = .exit 4 ∧ ((0 : Int) = 1 ∧ ((pre.length : Int) = stop ∧ (Boxed Y W0.heap.size 3 (.int .i64 (pre.length : Int)) ∧ Y.heap[DA0]? = some (.deferred (some [])))))) ∧ Below W0.heap.size W0 Y)
      (Stab.and (Stab.and (Stab.boxed _ _ (by omega)) (Stab.at _ (by omega))) (Stab.below (by omega) (Nat.le_refl _)))
      (fun c => Stab.and (Stab.and (Stab.pure _) (Stab.and (Stab.pure _) (Stab.and (Stab.pure _) (Stab.and (Stab.boxed _ _ (by omega)) (Stab.at _ (by omega)))))) (Stab.below (by omega) (Nat.le_refl _)))
      ⟨⟨bn, hKs⟩, hBn⟩
    case hassign =>
      intro l' x X K hK
      simp only [encC]
      gi_wp2
      exact hK
    case hbody =>
      rintro l' pre x X ⟨⟨hn, hKD⟩, hBX⟩ hpx
      obtain ⟨hpl, hget⟩ := take_of_preT hpx
      obtain ⟨h0, h1, h2, h3, hsl, hBw, -⟩ := FW0.out X hBX
      rw [List.length_reverse] at hpl
      rw [List.getElem?_reverse hpl] at hget
      rw [HN.out] at hget hpl
      obtain ⟨j, hj⟩ : ∃ j, N - 1 - pre.length = j := ⟨_, rfl⟩
      rw [hj] at hget
      obtain ⟨b, rfl, -, hcl⟩ : ∃ b, a = some ⟨b, 0, none⟩ ∧ b < X.heap.size ∧ ∀ (i : Nat) (e : Nat × Nat × Nat), (Cs 0 (bl s))[i]? = some e →
          X.cell? ⟨b, i * 4, none⟩ = some (.int .i64 (e.1 : Int)) ∧ X.cell? ⟨b, i * 4 + 1, none⟩ = some (.int .i32 (e.2.1 : Int)) ∧ X.cell? ⟨b, i * 4 + 2, none⟩ = some (.int .i64 (e.2.2 : Int)) ∧ X.cell? ⟨b, i * 4 + 3, none⟩ = some (.bool (rightE e)) := by
        rcases hsl with h | h
        · rw [h] at hget; cases hget
        · exact h
      obtain ⟨y0, y1, -, -⟩ := hcl _ _ hget
      have hlw := (Array.getElem?_eq_some_iff.1 (show _ = some _ from (FW0.out W0 (Below.refl _ _)).1)).1
      have hlt := (Array.getElem?_eq_some_iff.1 (show _ = some _ from (FW0.out W0 (Below.refl _ _)).2.2.2.1)).1
      have cn := hn.cell
      have fn' := hn.frozen
      have c2 := h2.cell
      have cn' := (hn.set (.int .i64 ((pre.length : Int) + 1))).cell
      have c0' := (h0.other (B' := W0.heap.size) (by omega) (.int .i64 ((pre.length : Int) + 1))).cell
      have c3' := (h3.other (B' := W0.heap.size) (by omega) (.int .i64 ((pre.length : Int) + 1))).cell
      have hjI : (N : Int) - 1 - (pre.length : Int) = (j : Int) := by omega
      have hltI : (j : Int) < (N : Int) := by omega
      have hplI : (pre.length : Int) < (N : Int) := by omega
      have hNI : (N : Int) ≤ 1048576 := by omega
      have hne : ((x.1 : Int) != (x.1 : Int)) = false := by simp
      have hne2 : ((x.2.1 : Int) != (x.2.1 : Int)) = false := by simp
      have HX := hide (And.intro hn (And.intro hKD hBX))
      clear hj hcl hsl h0 h1 h2 h3 hBw hn hBX hget hpx hBn bn bs hKs hKD
      gi_wp2
      obtain ⟨hn, hKD, hBX⟩ := HX.out
      have hKD' : (X.setCell ⟨W0.heap.size, 0, none⟩ (.int .i64 ((pre.length : Int) + 1))).heap[DA0]? = some (.deferred (some [])) := ((grownBy_setCell' X W0.heap.size _).block DA0 (Array.getElem?_eq_some_iff.1 hKD).1 (fun e => by cases e; omega)).trans hKD
      have hn' : Boxed (X.setCell ⟨W0.heap.size, 0, none⟩ (.int .i64 ((pre.length : Int) + 1))) W0.heap.size 3 (.int .i64 ((pre ++ [x]).length : Int)) := by
        have := hn.set (.int .i64 ((pre.length : Int) + 1))
        simpa using this
      exact ⟨Kp.set _ (fun h => by omega) (by omega), ⟨hn', hKD'⟩, hBX.setCell (p := ⟨W0.heap.size, 0, none⟩) (Nat.le_refl _) _⟩
    case hdone =>
      rintro DB0 XB0 hDDB0 ⟨⟨hn, hKA⟩, hBX⟩ hK
      rw [List.length_reverse, HN.out] at hn
      have hnn : (((N : Int) != (N : Int)) = false) := by simp
      clear bn hBn bs hKs
      obtain ⟨h0, h1, h2, h3, hsl, hBw, hDs⟩ := FW0.out XB0 hBX
      have cn := hn.cell
      have c2 := h2.cell
      have c3 := h3.cell
      have c0 := h0.cell
      have hlE := (Array.getElem?_eq_some_iff.1 hK).1
      have hlA := (Array.getElem?_eq_some_iff.1 hKA).1
      have hlWY := hBX.size
      have HK := hide (And.intro hK (And.intro hKA hBX))
      clear hK hKA hn hBX h0 h1 h2 h3 hsl hBw hDs
      gi_wp2
      rw [roundsIn_succ]
      obtain ⟨hK, hKA, hBX⟩ := HK.out
      have hA : Below XB0.heap.size XB0 (XB0.alloc (.cells #[.int .i64 1] 3)) := (Below.refl _ _).alloc (Nat.le_refl _) _
      have hBA : Below W0.heap.size W0 (XB0.alloc (.cells #[.int .i64 1] 3)) := bseq hBX hA
      have b3 := Boxed.new XB0 3 (.int .i64 1)
      have hK1 := (hA.block _ hlE).trans hK
      have hK2 := (hA.block _ hlA).trans hKA
      have hszA : (XB0.alloc (.cells #[.int .i64 1] 3)).heap.size = XB0.heap.size + 1 := by simp
      have hlW0 := (Array.getElem?_eq_some_iff.1 (show _ = some _ from (FW0.out W0 (Below.refl _ _)).2.1)).1
      generalize XB0.alloc (.cells #[.int .i64 1] 3) = W1 at *
      have facts : ∀ X, Below W1.heap.size W1 X → Boxed X w.heap.size 3 (.int .i64 stop) ∧ Boxed X (w.heap.size + 1) 4 (.bool false) ∧ Boxed X w2.heap.size 23 (.slice a N cap) ∧ Boxed X (XB0.heap.size) 3 (.int .i64 1) ∧ SlC X a (Cs 0 (bl s)) ∧ Below w.heap.size w X ∧ ∀ D ∈ ([DB0, DA0] : List Nat), w.heap.size + 2 ≤ D ∧ X.heap[D]? = some (.deferred (some [])) := fun X hX => by
        obtain ⟨h0, h1, h2, -, hsl, hBw, -⟩ := FW0.out X (bseq hBA hX)
        refine ⟨h0, h1, h2, below_boxed_t hX b3, hsl, hBw, fun D hD => ?_⟩
        simp only [List.mem_cons, List.not_mem_nil, or_false] at hD
        rcases hD with rfl | rfl
        · exact ⟨by omega, (hX.block _ (by omega)).trans hK1⟩
        · exact ⟨by omega, (hX.block _ (by omega)).trans hK2⟩
      have FW1 := hide facts
      have c3 := b3.cell
      have hDo : DA0 < DB0 := by omega
      have hltA : XB0.heap.size < W1.heap.size := by omega
      clear hszA facts hK hKA hBX hA hBA hK1 hK2 HK cn c2 c0
      gi_wp2_with (refine ⟨trivial, ?_⟩; gi_at_call 8; refine (uall_in s _).mono ?_; rintro e w' ⟨rfl, rfl⟩)
      clear c3 b3
      have bn := (Boxed.new W1 3 (.int .i64 0)).alloc (.cells #[.string s] 9)
      have bs := Boxed.new (W1.alloc (.cells #[.int .i64 0] 3)) 9 (.string s)
      have hBn : Below W1.heap.size W1 ((W1.alloc (.cells #[.int .i64 0] 3)).alloc (.cells #[.string s] 9)) := ((Below.refl _ W1).alloc (Nat.le_refl _) _).alloc (by simp) _
      have hszn : ((W1.alloc (.cells #[.int .i64 0] 3)).alloc (.cells #[.string s] 9)).heap.size = W1.heap.size + 2 := by simp
      simp only [World.size_alloc] at bs
      generalize (W1.alloc (.cells #[.int .i64 0] 3)).alloc (.cells #[.string s] 9) = WA at *
      apply rangeX (gf := 27) (lb := #[.pointer (some ⟨W1.heap.size + 1, 0, none⟩)]) (encs := encC) rfl (enters_of Try.func27 (by kernel_rfl) rfl)
        (uall_x (fun _ => False) (fun k => k = W1.heap.size + 1) (W1.heap.size + 1) s WA (by omega) (by omega) bs.cell) (Below.refl _ _) (fun k h => by omega) (fun _ => rfl)
        (fun pre X => Boxed X W1.heap.size 3 (.int .i64 (pre.length : Int)) ∧ Below W1.heap.size W1 X)
        (fun c pre X => (c = .exit 2 ∧ ((1 : Int) = 1 ∧ ((pre.length : Int) = stop ∧ Boxed X W1.heap.size 3 (.int .i64 (pre.length : Int))))) ∧ Below W1.heap.size W1 X)
        (Stab.and (Stab.boxed _ _ (by omega)) (Stab.below (by omega) (Nat.le_refl _)))
        (fun c => Stab.and (Stab.and (Stab.pure _) (Stab.and (Stab.pure _) (Stab.and (Stab.pure _) (Stab.boxed _ _ (by omega))))) (Stab.below (by omega) (Nat.le_refl _)))
        ⟨bn, hBn⟩
      case hassign =>
        intro l' x X K hK
        simp only [encC]
        gi_wp2
        exact hK
      case hbody =>
        rintro l' pre x X ⟨hn, hBX⟩ hpx
        obtain ⟨hpl, hget⟩ := take_of_preT hpx
        obtain ⟨h0, h1, h2, h3, hsl, hBw, -⟩ := FW1.out X hBX
        obtain ⟨b, rfl, -, hcl⟩ : ∃ b, a = some ⟨b, 0, none⟩ ∧ b < X.heap.size ∧ ∀ (i : Nat) (e : Nat × Nat × Nat), (Cs 0 (bl s))[i]? = some e →
            X.cell? ⟨b, i * 4, none⟩ = some (.int .i64 (e.1 : Int)) ∧ X.cell? ⟨b, i * 4 + 1, none⟩ = some (.int .i32 (e.2.1 : Int)) ∧ X.cell? ⟨b, i * 4 + 2, none⟩ = some (.int .i64 (e.2.2 : Int)) ∧ X.cell? ⟨b, i * 4 + 3, none⟩ = some (.bool (rightE e)) := by
          rcases hsl with h | h
          · rw [h] at hget; cases hget
          · exact h
        obtain ⟨y0, y1, -, -⟩ := hcl _ _ hget
        have hlw := (Array.getElem?_eq_some_iff.1 (show _ = some _ from (FW1.out W1 (Below.refl _ _)).1)).1
        have hlt := (Array.getElem?_eq_some_iff.1 (show _ = some _ from (FW1.out W1 (Below.refl _ _)).2.2.2.1)).1
        have cn := hn.cell
        have fn' := hn.frozen
        have c2 := h2.cell
        have cn' := (hn.set (.int .i64 ((pre.length : Int) + 1))).cell
        have c0' := (h0.other (B' := W1.heap.size) (by omega) (.int .i64 ((pre.length : Int) + 1))).cell
        have c3' := (h3.other (B' := W1.heap.size) (by omega) (.int .i64 ((pre.length : Int) + 1))).cell
        rw [HN.out] at hpl
        have hltI : (pre.length : Int) < (N : Int) := by omega
        have hNI : (N : Int) ≤ 1048576 := by omega
        have hne : ((x.1 : Int) != (x.1 : Int)) = false := by simp
        have hne2 : ((x.2.1 : Int) != (x.2.1 : Int)) = false := by simp
        have HX := hide (And.intro hn hBX)
        clear hcl hsl h0 h1 h2 h3 hBw hn hBX hget hpx hBn bn bs
        by_cases hst : (pre.length : Int) + 1 = stop
        · have hst' : ((pre.length : Int) + 1 == stop) = true := by simp [hst]
          have HST := hide hst
          clear hst
          gi_wp2
          obtain ⟨hn, hBX⟩ := HX.out
          have hn' : Boxed (X.setCell ⟨W1.heap.size, 0, none⟩ (.int .i64 ((pre.length : Int) + 1))) W1.heap.size 3 (.int .i64 ((pre ++ [x]).length : Int)) := by
            have := hn.set (.int .i64 ((pre.length : Int) + 1))
            simpa using this
          have hst2 : ((pre ++ [x]).length : Int) = stop := by simpa using HST.out
          exact ⟨Kp.set _ (fun h => by omega) (by omega), (by first | exact ⟨rfl, rfl, hst2, hn'⟩ | exact ⟨rfl, hst2, hn'⟩), hBX.setCell (p := ⟨W1.heap.size, 0, none⟩) (Nat.le_refl _) _⟩
        · have hst' : ((pre.length : Int) + 1 == stop) = false := by simp [hst]
          clear hst
          gi_wp2
          obtain ⟨hn, hBX⟩ := HX.out
          refine ⟨Kp.set _ (fun h => by omega) (by omega), ?_, hBX.setCell (p := ⟨W1.heap.size, 0, none⟩) (Nat.le_refl _) _⟩
          have := hn.set (.int .i64 ((pre.length : Int) + 1))
          simpa using this
      case hdone =>
        rintro DA1 XA1 hDDA1 ⟨hn, hBX⟩ hK
        rw [HN.out] at hn
        have hnn : (((N : Int) != (N : Int)) = false) := by simp
        clear bn hBn bs
        obtain ⟨h0, h1, h2, h3, hsl, hBw, hDs⟩ := FW1.out XA1 hBX
        have cn := hn.cell
        have fn' := hn.frozen
        have c2 := h2.cell
        have c3 := h3.cell
        have c0 := h0.cell
        have hlD := (Array.getElem?_eq_some_iff.1 hK).1
        have HK := hide (And.intro hK (And.intro hn hBX))
        clear hK hn hBX h0 h1 h2 h3 hsl hBw hDs
        gi_wp2_with (refine ⟨trivial, ?_⟩; gi_at_call 9; refine (uback_in s _).mono ?_; rintro e w' ⟨rfl, rfl⟩)
        obtain ⟨hK, hn, hBX⟩ := HK.out
        have hszX : (XA1.setCell ⟨W1.heap.size, 0, none⟩ (.int .i64 0)).heap.size = XA1.heap.size := by simp [World.setCell]
        have bn := (hn.set (.int .i64 0)).alloc (.cells #[.string s] 9)
        have bs := Boxed.new (XA1.setCell ⟨W1.heap.size, 0, none⟩ (.int .i64 0)) 9 (.string s)
        have hlWX := hBX.size
        have hBn : Below W1.heap.size W1 ((XA1.setCell ⟨W1.heap.size, 0, none⟩ (.int .i64 0)).alloc (.cells #[.string s] 9)) := (hBX.setCell (p := ⟨W1.heap.size, 0, none⟩) (Nat.le_refl _) _).alloc (by omega) _
        have hszn : ((XA1.setCell ⟨W1.heap.size, 0, none⟩ (.int .i64 0)).alloc (.cells #[.string s] 9)).heap.size = XA1.heap.size + 1 := by rw [World.size_alloc, hszX]
        have hKs : ((XA1.setCell ⟨W1.heap.size, 0, none⟩ (.int .i64 0)).alloc (.cells #[.string s] 9)).heap[DA1]? = some (.deferred (some [])) := by
          have e1 : (XA1.setCell ⟨W1.heap.size, 0, none⟩ (.int .i64 0)).heap[DA1]? = some (.deferred (some [])) := ((grownBy_setCell' XA1 W1.heap.size (.int .i64 0)).block DA1 hlD (fun e => by cases e; omega)).trans hK
          exact ((Below.refl _ _).alloc (Nat.le_refl _) _ : Below _ _ _).block DA1 (Array.getElem?_eq_some_iff.1 e1).1 |>.trans e1
        rw [hszX] at bs
        try simp only [hszX]
        generalize (XA1.setCell ⟨W1.heap.size, 0, none⟩ (.int .i64 0)).alloc (.cells #[.string s] 9) = WB at *
        clear hK hn hBX hszX HK
        apply rangeX (gf := 28) (lb := #[.pointer (some ⟨XA1.heap.size, 0, none⟩)]) (encs := encC) rfl (enters_of Try.func28 (by kernel_rfl) rfl)
          (uback_x (fun _ => False) (fun k => k = XA1.heap.size) XA1.heap.size s WB (by omega) rfl (by omega) bs.cell) (Below.refl _ _) (fun k h => by omega) (fun _ => rfl)
          (fun pre Y => (Boxed Y W1.heap.size 3 (.int .i64 (pre.length : Int)) ∧ Y.heap[DA1]? = some (.deferred (some []))) ∧ Below W1.heap.size W1 Y)
          (fun c pre Y => (c = .exit 4 ∧ ((1 : Int) = 1 ∧ ((pre.length : Int) = stop ∧ (Boxed Y W1.heap.size 3 (.int .i64 (pre.length : Int)) ∧ Y.heap[DA1]? = some (.deferred (some [])))))) ∧ Below W1.heap.size W1 Y)
          (Stab.and (Stab.and (Stab.boxed _ _ (by omega)) (Stab.at _ (by omega))) (Stab.below (by omega) (Nat.le_refl _)))
          (fun c => Stab.and (Stab.and (Stab.pure _) (Stab.and (Stab.pure _) (Stab.and (Stab.pure _) (Stab.and (Stab.boxed _ _ (by omega)) (Stab.at _ (by omega)))))) (Stab.below (by omega) (Nat.le_refl _)))
          ⟨⟨bn, hKs⟩, hBn⟩
        case hassign =>
          intro l' x X K hK
          simp only [encC]
          gi_wp2
          exact hK
        case hbody =>
          rintro l' pre x X ⟨⟨hn, hKD⟩, hBX⟩ hpx
          obtain ⟨hpl, hget⟩ := take_of_preT hpx
          obtain ⟨h0, h1, h2, h3, hsl, hBw, -⟩ := FW1.out X hBX
          rw [List.length_reverse] at hpl
          rw [List.getElem?_reverse hpl] at hget
          rw [HN.out] at hget hpl
          obtain ⟨j, hj⟩ : ∃ j, N - 1 - pre.length = j := ⟨_, rfl⟩
          rw [hj] at hget
          obtain ⟨b, rfl, -, hcl⟩ : ∃ b, a = some ⟨b, 0, none⟩ ∧ b < X.heap.size ∧ ∀ (i : Nat) (e : Nat × Nat × Nat), (Cs 0 (bl s))[i]? = some e →
              X.cell? ⟨b, i * 4, none⟩ = some (.int .i64 (e.1 : Int)) ∧ X.cell? ⟨b, i * 4 + 1, none⟩ = some (.int .i32 (e.2.1 : Int)) ∧ X.cell? ⟨b, i * 4 + 2, none⟩ = some (.int .i64 (e.2.2 : Int)) ∧ X.cell? ⟨b, i * 4 + 3, none⟩ = some (.bool (rightE e)) := by
            rcases hsl with h | h
            · rw [h] at hget; cases hget
            · exact h
          obtain ⟨y0, y1, -, -⟩ := hcl _ _ hget
          have hlw := (Array.getElem?_eq_some_iff.1 (show _ = some _ from (FW1.out W1 (Below.refl _ _)).1)).1
          have hlt := (Array.getElem?_eq_some_iff.1 (show _ = some _ from (FW1.out W1 (Below.refl _ _)).2.2.2.1)).1
          have cn := hn.cell
          have fn' := hn.frozen
          have c2 := h2.cell
          have cn' := (hn.set (.int .i64 ((pre.length : Int) + 1))).cell
          have c0' := (h0.other (B' := W1.heap.size) (by omega) (.int .i64 ((pre.length : Int) + 1))).cell
          have c3' := (h3.other (B' := W1.heap.size) (by omega) (.int .i64 ((pre.length : Int) + 1))).cell
          have hjI : (N : Int) - 1 - (pre.length : Int) = (j : Int) := by omega
          have hltI : (j : Int) < (N : Int) := by omega
          have hplI : (pre.length : Int) < (N : Int) := by omega
          have hNI : (N : Int) ≤ 1048576 := by omega
          have hne : ((x.1 : Int) != (x.1 : Int)) = false := by simp
          have hne2 : ((x.2.1 : Int) != (x.2.1 : Int)) = false := by simp
          have HX := hide (And.intro hn (And.intro hKD hBX))
          clear hj hcl hsl h0 h1 h2 h3 hBw hn hBX hget hpx hBn bn bs hKs hKD
          by_cases hst : (pre.length : Int) + 1 = stop
          · have hst' : ((pre.length : Int) + 1 == stop) = true := by simp [hst]
            have HST := hide hst
            clear hst
            gi_wp2
            obtain ⟨hn, hKD, hBX⟩ := HX.out
            have hKD' : (X.setCell ⟨W1.heap.size, 0, none⟩ (.int .i64 ((pre.length : Int) + 1))).heap[DA1]? = some (.deferred (some [])) := ((grownBy_setCell' X W1.heap.size _).block DA1 (Array.getElem?_eq_some_iff.1 hKD).1 (fun e => by cases e; omega)).trans hKD
            have hn' : Boxed (X.setCell ⟨W1.heap.size, 0, none⟩ (.int .i64 ((pre.length : Int) + 1))) W1.heap.size 3 (.int .i64 ((pre ++ [x]).length : Int)) := by
              have := hn.set (.int .i64 ((pre.length : Int) + 1))
              simpa using this
            have hst2 : ((pre ++ [x]).length : Int) = stop := by simpa using HST.out
            exact ⟨Kp.set _ (fun h => by omega) (by omega), (by first | exact ⟨rfl, rfl, hst2, hn', hKD'⟩ | exact ⟨rfl, hst2, hn', hKD'⟩), hBX.setCell (p := ⟨W1.heap.size, 0, none⟩) (Nat.le_refl _) _⟩
          · have hst' : ((pre.length : Int) + 1 == stop) = false := by simp [hst]
            clear hst
            gi_wp2
            obtain ⟨hn, hKD, hBX⟩ := HX.out
            have hKD' : (X.setCell ⟨W1.heap.size, 0, none⟩ (.int .i64 ((pre.length : Int) + 1))).heap[DA1]? = some (.deferred (some [])) := ((grownBy_setCell' X W1.heap.size _).block DA1 (Array.getElem?_eq_some_iff.1 hKD).1 (fun e => by cases e; omega)).trans hKD
            have hn' : Boxed (X.setCell ⟨W1.heap.size, 0, none⟩ (.int .i64 ((pre.length : Int) + 1))) W1.heap.size 3 (.int .i64 ((pre ++ [x]).length : Int)) := by
              have := hn.set (.int .i64 ((pre.length : Int) + 1))
              simpa using this
            exact ⟨Kp.set _ (fun h => by omega) (by omega), ⟨hn', hKD'⟩, hBX.setCell (p := ⟨W1.heap.size, 0, none⟩) (Nat.le_refl _) _⟩
        case hdone =>
          rintro DB1 XB1 hDDB1 ⟨⟨hn, hKA⟩, hBX⟩ hK
          rw [List.length_reverse, HN.out] at hn
          have hnn : (((N : Int) != (N : Int)) = false) := by simp
          clear bn hBn bs hKs
          obtain ⟨h0, h1, h2, h3, hsl, hBw, hDs⟩ := FW1.out XB1 hBX
          have cn := hn.cell
          have c2 := h2.cell
          have c3 := h3.cell
          have c0 := h0.cell
          have hlE := (Array.getElem?_eq_some_iff.1 hK).1
          have hlA := (Array.getElem?_eq_some_iff.1 hKA).1
          have hlWY := hBX.size
          have HK := hide (And.intro hK (And.intro hKA hBX))
          clear hK hKA hn hBX h0 h1 h2 h3 hsl hBw hDs
          gi_wp2
          rw [roundsIn_succ]
          obtain ⟨hK, hKA, hBX⟩ := HK.out
          have hA : Below XB1.heap.size XB1 (XB1.alloc (.cells #[.int .i64 2] 3)) := (Below.refl _ _).alloc (Nat.le_refl _) _
          have hBA : Below W1.heap.size W1 (XB1.alloc (.cells #[.int .i64 2] 3)) := bseq hBX hA
          have b3 := Boxed.new XB1 3 (.int .i64 2)
          obtain ⟨h0, h1, h2, -, hsl, hBw, hDs⟩ := FW1.out _ hBA
          have hK1 := (hA.block _ hlE).trans hK
          have hK2 := (hA.block _ hlA).trans hKA
          have hlW1 := (Array.getElem?_eq_some_iff.1 (show _ = some _ from (FW1.out W1 (Below.refl _ _)).2.1)).1
          have hdd := hDs DB0 (by simp)
          have hdd2 := hDs DA0 (by simp)
          have hl1 := (Array.getElem?_eq_some_iff.1 ((FW1.out W1 (Below.refl _ _)).2.2.2.2.2.2 DB0 (by simp)).2).1
          have hl2 := (Array.getElem?_eq_some_iff.1 ((FW1.out W1 (Below.refl _ _)).2.2.2.2.2.2 DA0 (by simp)).2).1
          generalize XB1.alloc (.cells #[.int .i64 2] 3) = Z at *
          have endS : ∀ X2, Below Z.heap.size Z X2 → ∀ tmps : Array Value, tmps.getD 4 undef = .pointer (some ⟨w.heap.size + 1, 0, none⟩) →
              LeavesInM Fence.wide 3 Try.prog Try.f3 tmps (fun e w' => e = .returned (.bool true) ∧ Below w.heap.size w w') [mk1 DB1, mk1 DA1, mk1 DB0, mk1 DA0] .returning (X2.setCell ⟨w.heap.size + 1, 0, none⟩ (.bool true)) := by
            intro X2 hX2 tmps ht
            refine leaves_box (p := 4) (ty := 4) (g := w.heap.size + 1) (t := 4) (B := w.heap.size) (w0 := w) rfl ht (fun w' hw => load_boolT hw) (Nat.le_refl _) [DB1, DA1, DB0, DA0] _ (by simp; omega) (fun d hd => ?_) ((below_boxed_t hX2 h1).set _) ((bseq hBw hX2).setCell (p := ⟨w.heap.size + 1, 0, none⟩) (Nat.le_add_right _ _) _)
            have key : ∀ d, w.heap.size + 1 < d → Z.heap[d]? = some (.deferred (some [])) → (X2.setCell ⟨w.heap.size + 1, 0, none⟩ (.bool true)).heap[d]? = some (.deferred (some [])) := fun d hd h => by
              have e1 := (hX2.block d (Array.getElem?_eq_some_iff.1 h).1).trans h
              refine ((grownBy_setCell' X2 (w.heap.size + 1) (.bool true)).block d (Array.getElem?_eq_some_iff.1 e1).1 (fun e => ?_)).trans e1
              cases e
              omega
            simp only [List.mem_cons, List.not_mem_nil, or_false] at hd
            rcases hd with rfl | rfl | rfl | rfl
            · exact ⟨by omega, key _ (by omega) hK1⟩
            · exact ⟨by omega, key _ (by omega) hK2⟩
            · exact ⟨by omega, key _ (by omega) hdd.2⟩
            · exact ⟨by omega, key _ (by omega) hdd2.2⟩
          have ENDS := hide endS
          have c3 := b3.cell
          have c2 := h2.cell
          have c0 := h0.cell
          have H1 := hide h1
          have kw := KW.out a cap Z hsl
          have KW2 := hide kw
          clear endS hK1 hK2 hdd hdd2 h0 h1 h2 hsl hBw hDs b3 hK hKA hBX hA hBA kw
          gi_wp2_with (refine ⟨trivial, ?_⟩; gi_at_call 10; refine ((callsIn_wide).2 KW2.out).mono ?_; rintro e X2 ⟨rfl, hX2⟩; have c1 := (below_boxed_t hX2 H1.out).cell; have f1 := (below_boxed_t hX2 H1.out).frozen)
          exact ENDS.out X2 hX2 _ rfl
        case hstop =>
          rintro DB1 c pre2 XB1 hDDB1 hpre2 ⟨⟨rfl, -, hps, hn, hKA⟩, hBX⟩ hK
          have hps2' : ((pre2.length : Int) == stop) = true := by simp [hps]
          clear bn hBn bs hKs hps
          by_cases hpn : (pre2.length : Int) = (N : Int)
          · have hpn2 : ((pre2.length : Int) != (N : Int)) = false := by simp [hpn]
            clear hpn
            obtain ⟨h0, h1, h2, h3, hsl, hBw, hDs⟩ := FW1.out XB1 hBX
            have cn := hn.cell
            have c2 := h2.cell
            have c3 := h3.cell
            have c0 := h0.cell
            have hlE := (Array.getElem?_eq_some_iff.1 hK).1
            have hlA := (Array.getElem?_eq_some_iff.1 hKA).1
            have hlWY := hBX.size
            have HK := hide (And.intro hK (And.intro hKA hBX))
            clear hK hKA hn hBX h0 h1 h2 h3 hsl hBw hDs
            gi_wp2
            rw [roundsIn_succ]
            obtain ⟨hK, hKA, hBX⟩ := HK.out
            have hA : Below XB1.heap.size XB1 (XB1.alloc (.cells #[.int .i64 2] 3)) := (Below.refl _ _).alloc (Nat.le_refl _) _
            have hBA : Below W1.heap.size W1 (XB1.alloc (.cells #[.int .i64 2] 3)) := bseq hBX hA
            have b3 := Boxed.new XB1 3 (.int .i64 2)
            obtain ⟨h0, h1, h2, -, hsl, hBw, hDs⟩ := FW1.out _ hBA
            have hK1 := (hA.block _ hlE).trans hK
            have hK2 := (hA.block _ hlA).trans hKA
            have hlW1 := (Array.getElem?_eq_some_iff.1 (show _ = some _ from (FW1.out W1 (Below.refl _ _)).2.1)).1
            have hdd := hDs DB0 (by simp)
            have hdd2 := hDs DA0 (by simp)
            have hl1 := (Array.getElem?_eq_some_iff.1 ((FW1.out W1 (Below.refl _ _)).2.2.2.2.2.2 DB0 (by simp)).2).1
            have hl2 := (Array.getElem?_eq_some_iff.1 ((FW1.out W1 (Below.refl _ _)).2.2.2.2.2.2 DA0 (by simp)).2).1
            generalize XB1.alloc (.cells #[.int .i64 2] 3) = Z at *
            have endS : ∀ X2, Below Z.heap.size Z X2 → ∀ tmps : Array Value, tmps.getD 4 undef = .pointer (some ⟨w.heap.size + 1, 0, none⟩) →
                LeavesInM Fence.wide 3 Try.prog Try.f3 tmps (fun e w' => e = .returned (.bool true) ∧ Below w.heap.size w w') [mk1 DB1, mk1 DA1, mk1 DB0, mk1 DA0] .returning (X2.setCell ⟨w.heap.size + 1, 0, none⟩ (.bool true)) := by
              intro X2 hX2 tmps ht
              refine leaves_box (p := 4) (ty := 4) (g := w.heap.size + 1) (t := 4) (B := w.heap.size) (w0 := w) rfl ht (fun w' hw => load_boolT hw) (Nat.le_refl _) [DB1, DA1, DB0, DA0] _ (by simp; omega) (fun d hd => ?_) ((below_boxed_t hX2 h1).set _) ((bseq hBw hX2).setCell (p := ⟨w.heap.size + 1, 0, none⟩) (Nat.le_add_right _ _) _)
              have key : ∀ d, w.heap.size + 1 < d → Z.heap[d]? = some (.deferred (some [])) → (X2.setCell ⟨w.heap.size + 1, 0, none⟩ (.bool true)).heap[d]? = some (.deferred (some [])) := fun d hd h => by
                have e1 := (hX2.block d (Array.getElem?_eq_some_iff.1 h).1).trans h
                refine ((grownBy_setCell' X2 (w.heap.size + 1) (.bool true)).block d (Array.getElem?_eq_some_iff.1 e1).1 (fun e => ?_)).trans e1
                cases e
                omega
              simp only [List.mem_cons, List.not_mem_nil, or_false] at hd
              rcases hd with rfl | rfl | rfl | rfl
              · exact ⟨by omega, key _ (by omega) hK1⟩
              · exact ⟨by omega, key _ (by omega) hK2⟩
              · exact ⟨by omega, key _ (by omega) hdd.2⟩
              · exact ⟨by omega, key _ (by omega) hdd2.2⟩
            have ENDS := hide endS
            have c3 := b3.cell
            have c2 := h2.cell
            have c0 := h0.cell
            have H1 := hide h1
            have kw := KW.out a cap Z hsl
            have KW2 := hide kw
            clear endS hK1 hK2 hdd hdd2 h0 h1 h2 hsl hBw hDs b3 hK hKA hBX hA hBA kw
            gi_wp2_with (refine ⟨trivial, ?_⟩; gi_at_call 10; refine ((callsIn_wide).2 KW2.out).mono ?_; rintro e X2 ⟨rfl, hX2⟩; have c1 := (below_boxed_t hX2 H1.out).cell; have f1 := (below_boxed_t hX2 H1.out).frozen)
            exact ENDS.out X2 hX2 _ rfl
          · have hpn2 : ((pre2.length : Int) != (N : Int)) = true := by simp [hpn]
            clear hpn
            obtain ⟨h0, h1, h2, h3, hsl, hBw, hDs⟩ := FW1.out XB1 hBX
            have cn := hn.cell
            have c2 := h2.cell
            have c3 := h3.cell
            have c0 := h0.cell
            have hlE := (Array.getElem?_eq_some_iff.1 hK).1
            have hlA := (Array.getElem?_eq_some_iff.1 hKA).1
            have hlWY := hBX.size
            have HK := hide (And.intro hK (And.intro hKA hBX))
            clear hK hKA hn hBX h0 h1 h2 h3 hsl hBw hDs
            gi_wp2
            rw [roundsIn_succ]
            obtain ⟨hK, hKA, hBX⟩ := HK.out
            have hA : Below XB1.heap.size XB1 (XB1.alloc (.cells #[.int .i64 2] 3)) := (Below.refl _ _).alloc (Nat.le_refl _) _
            have hBA : Below W1.heap.size W1 (XB1.alloc (.cells #[.int .i64 2] 3)) := bseq hBX hA
            have b3 := Boxed.new XB1 3 (.int .i64 2)
            obtain ⟨h0, h1, h2, -, hsl, hBw, hDs⟩ := FW1.out _ hBA
            have hK1 := (hA.block _ hlE).trans hK
            have hK2 := (hA.block _ hlA).trans hKA
            have hlW1 := (Array.getElem?_eq_some_iff.1 (show _ = some _ from (FW1.out W1 (Below.refl _ _)).2.1)).1
            have hdd := hDs DB0 (by simp)
            have hdd2 := hDs DA0 (by simp)
            have hl1 := (Array.getElem?_eq_some_iff.1 ((FW1.out W1 (Below.refl _ _)).2.2.2.2.2.2 DB0 (by simp)).2).1
            have hl2 := (Array.getElem?_eq_some_iff.1 ((FW1.out W1 (Below.refl _ _)).2.2.2.2.2.2 DA0 (by simp)).2).1
            generalize XB1.alloc (.cells #[.int .i64 2] 3) = Z at *
            have endS : ∀ X2, Below Z.heap.size Z X2 → ∀ tmps : Array Value, tmps.getD 4 undef = .pointer (some ⟨w.heap.size + 1, 0, none⟩) →
                LeavesInM Fence.wide 3 Try.prog Try.f3 tmps (fun e w' => e = .returned (.bool true) ∧ Below w.heap.size w w') [mk1 DB1, mk1 DA1, mk1 DB0, mk1 DA0] .returning (X2.setCell ⟨w.heap.size + 1, 0, none⟩ (.bool true)) := by
              intro X2 hX2 tmps ht
              refine leaves_box (p := 4) (ty := 4) (g := w.heap.size + 1) (t := 4) (B := w.heap.size) (w0 := w) rfl ht (fun w' hw => load_boolT hw) (Nat.le_refl _) [DB1, DA1, DB0, DA0] _ (by simp; omega) (fun d hd => ?_) ((below_boxed_t hX2 h1).set _) ((bseq hBw hX2).setCell (p := ⟨w.heap.size + 1, 0, none⟩) (Nat.le_add_right _ _) _)
              have key : ∀ d, w.heap.size + 1 < d → Z.heap[d]? = some (.deferred (some [])) → (X2.setCell ⟨w.heap.size + 1, 0, none⟩ (.bool true)).heap[d]? = some (.deferred (some [])) := fun d hd h => by
                have e1 := (hX2.block d (Array.getElem?_eq_some_iff.1 h).1).trans h
                refine ((grownBy_setCell' X2 (w.heap.size + 1) (.bool true)).block d (Array.getElem?_eq_some_iff.1 e1).1 (fun e => ?_)).trans e1
                cases e
                omega
              simp only [List.mem_cons, List.not_mem_nil, or_false] at hd
              rcases hd with rfl | rfl | rfl | rfl
              · exact ⟨by omega, key _ (by omega) hK1⟩
              · exact ⟨by omega, key _ (by omega) hK2⟩
              · exact ⟨by omega, key _ (by omega) hdd.2⟩
              · exact ⟨by omega, key _ (by omega) hdd2.2⟩
            have ENDS := hide endS
            have c3 := b3.cell
            have c2 := h2.cell
            have c0 := h0.cell
            have H1 := hide h1
            have kw := KW.out a cap Z hsl
            have KW2 := hide kw
            clear endS hK1 hK2 hdd hdd2 h0 h1 h2 hsl hBw hDs b3 hK hKA hBX hA hBA kw
            gi_wp2_with (refine ⟨trivial, ?_⟩; gi_at_call 10; refine ((callsIn_wide).2 KW2.out).mono ?_; rintro e X2 ⟨rfl, hX2⟩; have c1 := (below_boxed_t hX2 H1.out).cell; have f1 := (below_boxed_t hX2 H1.out).frozen)
            exact ENDS.out X2 hX2 _ rfl
      case hstop =>
        rintro DA1 c pre XA1 hDDA1 hpre ⟨⟨rfl, -, hps, hn⟩, hBX⟩ hK
        have hps' : ((pre.length : Int) == stop) = true := by simp [hps]
        clear bn hBn bs hps
        by_cases hpn : (pre.length : Int) = (N : Int)
        · have hpn' : ((pre.length : Int) != (N : Int)) = false := by simp [hpn]
          clear hpn
          obtain ⟨h0, h1, h2, h3, hsl, hBw, hDs⟩ := FW1.out XA1 hBX
          have cn := hn.cell
          have fn' := hn.frozen
          have c2 := h2.cell
          have c3 := h3.cell
          have c0 := h0.cell
          have hlD := (Array.getElem?_eq_some_iff.1 hK).1
          have HK := hide (And.intro hK (And.intro hn hBX))
          clear hK hn hBX h0 h1 h2 h3 hsl hBw hDs
          gi_wp2_with (refine ⟨trivial, ?_⟩; gi_at_call 9; refine (uback_in s _).mono ?_; rintro e w' ⟨rfl, rfl⟩)
          obtain ⟨hK, hn, hBX⟩ := HK.out
          have hszX : (XA1.setCell ⟨W1.heap.size, 0, none⟩ (.int .i64 0)).heap.size = XA1.heap.size := by simp [World.setCell]
          have bn := (hn.set (.int .i64 0)).alloc (.cells #[.string s] 9)
          have bs := Boxed.new (XA1.setCell ⟨W1.heap.size, 0, none⟩ (.int .i64 0)) 9 (.string s)
          have hlWX := hBX.size
          have hBn : Below W1.heap.size W1 ((XA1.setCell ⟨W1.heap.size, 0, none⟩ (.int .i64 0)).alloc (.cells #[.string s] 9)) := (hBX.setCell (p := ⟨W1.heap.size, 0, none⟩) (Nat.le_refl _) _).alloc (by omega) _
          have hszn : ((XA1.setCell ⟨W1.heap.size, 0, none⟩ (.int .i64 0)).alloc (.cells #[.string s] 9)).heap.size = XA1.heap.size + 1 := by rw [World.size_alloc, hszX]
          have hKs : ((XA1.setCell ⟨W1.heap.size, 0, none⟩ (.int .i64 0)).alloc (.cells #[.string s] 9)).heap[DA1]? = some (.deferred (some [])) := by
            have e1 : (XA1.setCell ⟨W1.heap.size, 0, none⟩ (.int .i64 0)).heap[DA1]? = some (.deferred (some [])) := ((grownBy_setCell' XA1 W1.heap.size (.int .i64 0)).block DA1 hlD (fun e => by cases e; omega)).trans hK
            exact ((Below.refl _ _).alloc (Nat.le_refl _) _ : Below _ _ _).block DA1 (Array.getElem?_eq_some_iff.1 e1).1 |>.trans e1
          rw [hszX] at bs
          try simp only [hszX]
          generalize (XA1.setCell ⟨W1.heap.size, 0, none⟩ (.int .i64 0)).alloc (.cells #[.string s] 9) = WB at *
          clear hK hn hBX hszX HK
          apply rangeX (gf := 28) (lb := #[.pointer (some ⟨XA1.heap.size, 0, none⟩)]) (encs := encC) rfl (enters_of Try.func28 (by kernel_rfl) rfl)
            (uback_x (fun _ => False) (fun k => k = XA1.heap.size) XA1.heap.size s WB (by omega) rfl (by omega) bs.cell) (Below.refl _ _) (fun k h => by omega) (fun _ => rfl)
            (fun pre Y => (Boxed Y W1.heap.size 3 (.int .i64 (pre.length : Int)) ∧ Y.heap[DA1]? = some (.deferred (some []))) ∧ Below W1.heap.size W1 Y)
            (fun c pre Y => (c = .exit 4 ∧ ((1 : Int) = 1 ∧ ((pre.length : Int) = stop ∧ (Boxed Y W1.heap.size 3 (.int .i64 (pre.length : Int)) ∧ Y.heap[DA1]? = some (.deferred (some [])))))) ∧ Below W1.heap.size W1 Y)
            (Stab.and (Stab.and (Stab.boxed _ _ (by omega)) (Stab.at _ (by omega))) (Stab.below (by omega) (Nat.le_refl _)))
            (fun c => Stab.and (Stab.and (Stab.pure _) (Stab.and (Stab.pure _) (Stab.and (Stab.pure _) (Stab.and (Stab.boxed _ _ (by omega)) (Stab.at _ (by omega)))))) (Stab.below (by omega) (Nat.le_refl _)))
            ⟨⟨bn, hKs⟩, hBn⟩
          case hassign =>
            intro l' x X K hK
            simp only [encC]
            gi_wp2
            exact hK
          case hbody =>
            rintro l' pre x X ⟨⟨hn, hKD⟩, hBX⟩ hpx
            obtain ⟨hpl, hget⟩ := take_of_preT hpx
            obtain ⟨h0, h1, h2, h3, hsl, hBw, -⟩ := FW1.out X hBX
            rw [List.length_reverse] at hpl
            rw [List.getElem?_reverse hpl] at hget
            rw [HN.out] at hget hpl
            obtain ⟨j, hj⟩ : ∃ j, N - 1 - pre.length = j := ⟨_, rfl⟩
            rw [hj] at hget
            obtain ⟨b, rfl, -, hcl⟩ : ∃ b, a = some ⟨b, 0, none⟩ ∧ b < X.heap.size ∧ ∀ (i : Nat) (e : Nat × Nat × Nat), (Cs 0 (bl s))[i]? = some e →
                X.cell? ⟨b, i * 4, none⟩ = some (.int .i64 (e.1 : Int)) ∧ X.cell? ⟨b, i * 4 + 1, none⟩ = some (.int .i32 (e.2.1 : Int)) ∧ X.cell? ⟨b, i * 4 + 2, none⟩ = some (.int .i64 (e.2.2 : Int)) ∧ X.cell? ⟨b, i * 4 + 3, none⟩ = some (.bool (rightE e)) := by
              rcases hsl with h | h
              · rw [h] at hget; cases hget
              · exact h
            obtain ⟨y0, y1, -, -⟩ := hcl _ _ hget
            have hlw := (Array.getElem?_eq_some_iff.1 (show _ = some _ from (FW1.out W1 (Below.refl _ _)).1)).1
            have hlt := (Array.getElem?_eq_some_iff.1 (show _ = some _ from (FW1.out W1 (Below.refl _ _)).2.2.2.1)).1
            have cn := hn.cell
            have fn' := hn.frozen
            have c2 := h2.cell
            have cn' := (hn.set (.int .i64 ((pre.length : Int) + 1))).cell
            have c0' := (h0.other (B' := W1.heap.size) (by omega) (.int .i64 ((pre.length : Int) + 1))).cell
            have c3' := (h3.other (B' := W1.heap.size) (by omega) (.int .i64 ((pre.length : Int) + 1))).cell
            have hjI : (N : Int) - 1 - (pre.length : Int) = (j : Int) := by omega
            have hltI : (j : Int) < (N : Int) := by omega
            have hplI : (pre.length : Int) < (N : Int) := by omega
            have hNI : (N : Int) ≤ 1048576 := by omega
            have hne : ((x.1 : Int) != (x.1 : Int)) = false := by simp
            have hne2 : ((x.2.1 : Int) != (x.2.1 : Int)) = false := by simp
            have HX := hide (And.intro hn (And.intro hKD hBX))
            clear hj hcl hsl h0 h1 h2 h3 hBw hn hBX hget hpx hBn bn bs hKs hKD
            by_cases hst : (pre.length : Int) + 1 = stop
            · have hst' : ((pre.length : Int) + 1 == stop) = true := by simp [hst]
              have HST := hide hst
              clear hst
              gi_wp2
              obtain ⟨hn, hKD, hBX⟩ := HX.out
              have hKD' : (X.setCell ⟨W1.heap.size, 0, none⟩ (.int .i64 ((pre.length : Int) + 1))).heap[DA1]? = some (.deferred (some [])) := ((grownBy_setCell' X W1.heap.size _).block DA1 (Array.getElem?_eq_some_iff.1 hKD).1 (fun e => by cases e; omega)).trans hKD
              have hn' : Boxed (X.setCell ⟨W1.heap.size, 0, none⟩ (.int .i64 ((pre.length : Int) + 1))) W1.heap.size 3 (.int .i64 ((pre ++ [x]).length : Int)) := by
                have := hn.set (.int .i64 ((pre.length : Int) + 1))
                simpa using this
              have hst2 : ((pre ++ [x]).length : Int) = stop := by simpa using HST.out
              exact ⟨Kp.set _ (fun h => by omega) (by omega), (by first | exact ⟨rfl, rfl, hst2, hn', hKD'⟩ | exact ⟨rfl, hst2, hn', hKD'⟩), hBX.setCell (p := ⟨W1.heap.size, 0, none⟩) (Nat.le_refl _) _⟩
            · have hst' : ((pre.length : Int) + 1 == stop) = false := by simp [hst]
              clear hst
              gi_wp2
              obtain ⟨hn, hKD, hBX⟩ := HX.out
              have hKD' : (X.setCell ⟨W1.heap.size, 0, none⟩ (.int .i64 ((pre.length : Int) + 1))).heap[DA1]? = some (.deferred (some [])) := ((grownBy_setCell' X W1.heap.size _).block DA1 (Array.getElem?_eq_some_iff.1 hKD).1 (fun e => by cases e; omega)).trans hKD
              have hn' : Boxed (X.setCell ⟨W1.heap.size, 0, none⟩ (.int .i64 ((pre.length : Int) + 1))) W1.heap.size 3 (.int .i64 ((pre ++ [x]).length : Int)) := by
                have := hn.set (.int .i64 ((pre.length : Int) + 1))
                simpa using this
              exact ⟨Kp.set _ (fun h => by omega) (by omega), ⟨hn', hKD'⟩, hBX.setCell (p := ⟨W1.heap.size, 0, none⟩) (Nat.le_refl _) _⟩
          case hdone =>
            rintro DB1 XB1 hDDB1 ⟨⟨hn, hKA⟩, hBX⟩ hK
            rw [List.length_reverse, HN.out] at hn
            have hnn : (((N : Int) != (N : Int)) = false) := by simp
            clear bn hBn bs hKs
            obtain ⟨h0, h1, h2, h3, hsl, hBw, hDs⟩ := FW1.out XB1 hBX
            have cn := hn.cell
            have c2 := h2.cell
            have c3 := h3.cell
            have c0 := h0.cell
            have hlE := (Array.getElem?_eq_some_iff.1 hK).1
            have hlA := (Array.getElem?_eq_some_iff.1 hKA).1
            have hlWY := hBX.size
            have HK := hide (And.intro hK (And.intro hKA hBX))
            clear hK hKA hn hBX h0 h1 h2 h3 hsl hBw hDs
            gi_wp2
            rw [roundsIn_succ]
            obtain ⟨hK, hKA, hBX⟩ := HK.out
            have hA : Below XB1.heap.size XB1 (XB1.alloc (.cells #[.int .i64 2] 3)) := (Below.refl _ _).alloc (Nat.le_refl _) _
            have hBA : Below W1.heap.size W1 (XB1.alloc (.cells #[.int .i64 2] 3)) := bseq hBX hA
            have b3 := Boxed.new XB1 3 (.int .i64 2)
            obtain ⟨h0, h1, h2, -, hsl, hBw, hDs⟩ := FW1.out _ hBA
            have hK1 := (hA.block _ hlE).trans hK
            have hK2 := (hA.block _ hlA).trans hKA
            have hlW1 := (Array.getElem?_eq_some_iff.1 (show _ = some _ from (FW1.out W1 (Below.refl _ _)).2.1)).1
            have hdd := hDs DB0 (by simp)
            have hdd2 := hDs DA0 (by simp)
            have hl1 := (Array.getElem?_eq_some_iff.1 ((FW1.out W1 (Below.refl _ _)).2.2.2.2.2.2 DB0 (by simp)).2).1
            have hl2 := (Array.getElem?_eq_some_iff.1 ((FW1.out W1 (Below.refl _ _)).2.2.2.2.2.2 DA0 (by simp)).2).1
            generalize XB1.alloc (.cells #[.int .i64 2] 3) = Z at *
            have endS : ∀ X2, Below Z.heap.size Z X2 → ∀ tmps : Array Value, tmps.getD 4 undef = .pointer (some ⟨w.heap.size + 1, 0, none⟩) →
                LeavesInM Fence.wide 3 Try.prog Try.f3 tmps (fun e w' => e = .returned (.bool true) ∧ Below w.heap.size w w') [mk1 DB1, mk1 DA1, mk1 DB0, mk1 DA0] .returning (X2.setCell ⟨w.heap.size + 1, 0, none⟩ (.bool true)) := by
              intro X2 hX2 tmps ht
              refine leaves_box (p := 4) (ty := 4) (g := w.heap.size + 1) (t := 4) (B := w.heap.size) (w0 := w) rfl ht (fun w' hw => load_boolT hw) (Nat.le_refl _) [DB1, DA1, DB0, DA0] _ (by simp; omega) (fun d hd => ?_) ((below_boxed_t hX2 h1).set _) ((bseq hBw hX2).setCell (p := ⟨w.heap.size + 1, 0, none⟩) (Nat.le_add_right _ _) _)
              have key : ∀ d, w.heap.size + 1 < d → Z.heap[d]? = some (.deferred (some [])) → (X2.setCell ⟨w.heap.size + 1, 0, none⟩ (.bool true)).heap[d]? = some (.deferred (some [])) := fun d hd h => by
                have e1 := (hX2.block d (Array.getElem?_eq_some_iff.1 h).1).trans h
                refine ((grownBy_setCell' X2 (w.heap.size + 1) (.bool true)).block d (Array.getElem?_eq_some_iff.1 e1).1 (fun e => ?_)).trans e1
                cases e
                omega
              simp only [List.mem_cons, List.not_mem_nil, or_false] at hd
              rcases hd with rfl | rfl | rfl | rfl
              · exact ⟨by omega, key _ (by omega) hK1⟩
              · exact ⟨by omega, key _ (by omega) hK2⟩
              · exact ⟨by omega, key _ (by omega) hdd.2⟩
              · exact ⟨by omega, key _ (by omega) hdd2.2⟩
            have ENDS := hide endS
            have c3 := b3.cell
            have c2 := h2.cell
            have c0 := h0.cell
            have H1 := hide h1
            have kw := KW.out a cap Z hsl
            have KW2 := hide kw
            clear endS hK1 hK2 hdd hdd2 h0 h1 h2 hsl hBw hDs b3 hK hKA hBX hA hBA kw
            gi_wp2_with (refine ⟨trivial, ?_⟩; gi_at_call 10; refine ((callsIn_wide).2 KW2.out).mono ?_; rintro e X2 ⟨rfl, hX2⟩; have c1 := (below_boxed_t hX2 H1.out).cell; have f1 := (below_boxed_t hX2 H1.out).frozen)
            exact ENDS.out X2 hX2 _ rfl
          case hstop =>
            rintro DB1 c pre2 XB1 hDDB1 hpre2 ⟨⟨rfl, -, hps, hn, hKA⟩, hBX⟩ hK
            have hps2' : ((pre2.length : Int) == stop) = true := by simp [hps]
            clear bn hBn bs hKs hps
            by_cases hpn : (pre2.length : Int) = (N : Int)
            · have hpn2 : ((pre2.length : Int) != (N : Int)) = false := by simp [hpn]
              clear hpn
              obtain ⟨h0, h1, h2, h3, hsl, hBw, hDs⟩ := FW1.out XB1 hBX
              have cn := hn.cell
              have c2 := h2.cell
              have c3 := h3.cell
              have c0 := h0.cell
              have hlE := (Array.getElem?_eq_some_iff.1 hK).1
              have hlA := (Array.getElem?_eq_some_iff.1 hKA).1
              have hlWY := hBX.size
              have HK := hide (And.intro hK (And.intro hKA hBX))
              clear hK hKA hn hBX h0 h1 h2 h3 hsl hBw hDs
              gi_wp2
              rw [roundsIn_succ]
              obtain ⟨hK, hKA, hBX⟩ := HK.out
              have hA : Below XB1.heap.size XB1 (XB1.alloc (.cells #[.int .i64 2] 3)) := (Below.refl _ _).alloc (Nat.le_refl _) _
              have hBA : Below W1.heap.size W1 (XB1.alloc (.cells #[.int .i64 2] 3)) := bseq hBX hA
              have b3 := Boxed.new XB1 3 (.int .i64 2)
              obtain ⟨h0, h1, h2, -, hsl, hBw, hDs⟩ := FW1.out _ hBA
              have hK1 := (hA.block _ hlE).trans hK
              have hK2 := (hA.block _ hlA).trans hKA
              have hlW1 := (Array.getElem?_eq_some_iff.1 (show _ = some _ from (FW1.out W1 (Below.refl _ _)).2.1)).1
              have hdd := hDs DB0 (by simp)
              have hdd2 := hDs DA0 (by simp)
              have hl1 := (Array.getElem?_eq_some_iff.1 ((FW1.out W1 (Below.refl _ _)).2.2.2.2.2.2 DB0 (by simp)).2).1
              have hl2 := (Array.getElem?_eq_some_iff.1 ((FW1.out W1 (Below.refl _ _)).2.2.2.2.2.2 DA0 (by simp)).2).1
              generalize XB1.alloc (.cells #[.int .i64 2] 3) = Z at *
              have endS : ∀ X2, Below Z.heap.size Z X2 → ∀ tmps : Array Value, tmps.getD 4 undef = .pointer (some ⟨w.heap.size + 1, 0, none⟩) →
                  LeavesInM Fence.wide 3 Try.prog Try.f3 tmps (fun e w' => e = .returned (.bool true) ∧ Below w.heap.size w w') [mk1 DB1, mk1 DA1, mk1 DB0, mk1 DA0] .returning (X2.setCell ⟨w.heap.size + 1, 0, none⟩ (.bool true)) := by
                intro X2 hX2 tmps ht
                refine leaves_box (p := 4) (ty := 4) (g := w.heap.size + 1) (t := 4) (B := w.heap.size) (w0 := w) rfl ht (fun w' hw => load_boolT hw) (Nat.le_refl _) [DB1, DA1, DB0, DA0] _ (by simp; omega) (fun d hd => ?_) ((below_boxed_t hX2 h1).set _) ((bseq hBw hX2).setCell (p := ⟨w.heap.size + 1, 0, none⟩) (Nat.le_add_right _ _) _)
                have key : ∀ d, w.heap.size + 1 < d → Z.heap[d]? = some (.deferred (some [])) → (X2.setCell ⟨w.heap.size + 1, 0, none⟩ (.bool true)).heap[d]? = some (.deferred (some [])) := fun d hd h => by
                  have e1 := (hX2.block d (Array.getElem?_eq_some_iff.1 h).1).trans h
                  refine ((grownBy_setCell' X2 (w.heap.size + 1) (.bool true)).block d (Array.getElem?_eq_some_iff.1 e1).1 (fun e => ?_)).trans e1
                  cases e
                  omega
                simp only [List.mem_cons, List.not_mem_nil, or_false] at hd
                rcases hd with rfl | rfl | rfl | rfl
                · exact ⟨by omega, key _ (by omega) hK1⟩
                · exact ⟨by omega, key _ (by omega) hK2⟩
                · exact ⟨by omega, key _ (by omega) hdd.2⟩
                · exact ⟨by omega, key _ (by omega) hdd2.2⟩
              have ENDS := hide endS
              have c3 := b3.cell
              have c2 := h2.cell
              have c0 := h0.cell
              have H1 := hide h1
              have kw := KW.out a cap Z hsl
              have KW2 := hide kw
              clear endS hK1 hK2 hdd hdd2 h0 h1 h2 hsl hBw hDs b3 hK hKA hBX hA hBA kw
              gi_wp2_with (refine ⟨trivial, ?_⟩; gi_at_call 10; refine ((callsIn_wide).2 KW2.out).mono ?_; rintro e X2 ⟨rfl, hX2⟩; have c1 := (below_boxed_t hX2 H1.out).cell; have f1 := (below_boxed_t hX2 H1.out).frozen)
              exact ENDS.out X2 hX2 _ rfl
            · have hpn2 : ((pre2.length : Int) != (N : Int)) = true := by simp [hpn]
              clear hpn
              obtain ⟨h0, h1, h2, h3, hsl, hBw, hDs⟩ := FW1.out XB1 hBX
              have cn := hn.cell
              have c2 := h2.cell
              have c3 := h3.cell
              have c0 := h0.cell
              have hlE := (Array.getElem?_eq_some_iff.1 hK).1
              have hlA := (Array.getElem?_eq_some_iff.1 hKA).1
              have hlWY := hBX.size
              have HK := hide (And.intro hK (And.intro hKA hBX))
              clear hK hKA hn hBX h0 h1 h2 h3 hsl hBw hDs
              gi_wp2
              rw [roundsIn_succ]
              obtain ⟨hK, hKA, hBX⟩ := HK.out
              have hA : Below XB1.heap.size XB1 (XB1.alloc (.cells #[.int .i64 2] 3)) := (Below.refl _ _).alloc (Nat.le_refl _) _
              have hBA : Below W1.heap.size W1 (XB1.alloc (.cells #[.int .i64 2] 3)) := bseq hBX hA
              have b3 := Boxed.new XB1 3 (.int .i64 2)
              obtain ⟨h0, h1, h2, -, hsl, hBw, hDs⟩ := FW1.out _ hBA
              have hK1 := (hA.block _ hlE).trans hK
              have hK2 := (hA.block _ hlA).trans hKA
              have hlW1 := (Array.getElem?_eq_some_iff.1 (show _ = some _ from (FW1.out W1 (Below.refl _ _)).2.1)).1
              have hdd := hDs DB0 (by simp)
              have hdd2 := hDs DA0 (by simp)
              have hl1 := (Array.getElem?_eq_some_iff.1 ((FW1.out W1 (Below.refl _ _)).2.2.2.2.2.2 DB0 (by simp)).2).1
              have hl2 := (Array.getElem?_eq_some_iff.1 ((FW1.out W1 (Below.refl _ _)).2.2.2.2.2.2 DA0 (by simp)).2).1
              generalize XB1.alloc (.cells #[.int .i64 2] 3) = Z at *
              have endS : ∀ X2, Below Z.heap.size Z X2 → ∀ tmps : Array Value, tmps.getD 4 undef = .pointer (some ⟨w.heap.size + 1, 0, none⟩) →
                  LeavesInM Fence.wide 3 Try.prog Try.f3 tmps (fun e w' => e = .returned (.bool true) ∧ Below w.heap.size w w') [mk1 DB1, mk1 DA1, mk1 DB0, mk1 DA0] .returning (X2.setCell ⟨w.heap.size + 1, 0, none⟩ (.bool true)) := by
                intro X2 hX2 tmps ht
                refine leaves_box (p := 4) (ty := 4) (g := w.heap.size + 1) (t := 4) (B := w.heap.size) (w0 := w) rfl ht (fun w' hw => load_boolT hw) (Nat.le_refl _) [DB1, DA1, DB0, DA0] _ (by simp; omega) (fun d hd => ?_) ((below_boxed_t hX2 h1).set _) ((bseq hBw hX2).setCell (p := ⟨w.heap.size + 1, 0, none⟩) (Nat.le_add_right _ _) _)
                have key : ∀ d, w.heap.size + 1 < d → Z.heap[d]? = some (.deferred (some [])) → (X2.setCell ⟨w.heap.size + 1, 0, none⟩ (.bool true)).heap[d]? = some (.deferred (some [])) := fun d hd h => by
                  have e1 := (hX2.block d (Array.getElem?_eq_some_iff.1 h).1).trans h
                  refine ((grownBy_setCell' X2 (w.heap.size + 1) (.bool true)).block d (Array.getElem?_eq_some_iff.1 e1).1 (fun e => ?_)).trans e1
                  cases e
                  omega
                simp only [List.mem_cons, List.not_mem_nil, or_false] at hd
                rcases hd with rfl | rfl | rfl | rfl
                · exact ⟨by omega, key _ (by omega) hK1⟩
                · exact ⟨by omega, key _ (by omega) hK2⟩
                · exact ⟨by omega, key _ (by omega) hdd.2⟩
                · exact ⟨by omega, key _ (by omega) hdd2.2⟩
              have ENDS := hide endS
              have c3 := b3.cell
              have c2 := h2.cell
              have c0 := h0.cell
              have H1 := hide h1
              have kw := KW.out a cap Z hsl
              have KW2 := hide kw
              clear endS hK1 hK2 hdd hdd2 h0 h1 h2 hsl hBw hDs b3 hK hKA hBX hA hBA kw
              gi_wp2_with (refine ⟨trivial, ?_⟩; gi_at_call 10; refine ((callsIn_wide).2 KW2.out).mono ?_; rintro e X2 ⟨rfl, hX2⟩; have c1 := (below_boxed_t hX2 H1.out).cell; have f1 := (below_boxed_t hX2 H1.out).frozen)
              exact ENDS.out X2 hX2 _ rfl
        · have hpn' : ((pre.length : Int) != (N : Int)) = true := by simp [hpn]
          clear hpn
          obtain ⟨h0, h1, h2, h3, hsl, hBw, hDs⟩ := FW1.out XA1 hBX
          have cn := hn.cell
          have fn' := hn.frozen
          have c2 := h2.cell
          have c3 := h3.cell
          have c0 := h0.cell
          have hlD := (Array.getElem?_eq_some_iff.1 hK).1
          have HK := hide (And.intro hK (And.intro hn hBX))
          clear hK hn hBX h0 h1 h2 h3 hsl hBw hDs
          gi_wp2_with (refine ⟨trivial, ?_⟩; gi_at_call 9; refine (uback_in s _).mono ?_; rintro e w' ⟨rfl, rfl⟩)
          obtain ⟨hK, hn, hBX⟩ := HK.out
          have hszX : (XA1.setCell ⟨W1.heap.size, 0, none⟩ (.int .i64 0)).heap.size = XA1.heap.size := by simp [World.setCell]
          have bn := (hn.set (.int .i64 0)).alloc (.cells #[.string s] 9)
          have bs := Boxed.new (XA1.setCell ⟨W1.heap.size, 0, none⟩ (.int .i64 0)) 9 (.string s)
          have hlWX := hBX.size
          have hBn : Below W1.heap.size W1 ((XA1.setCell ⟨W1.heap.size, 0, none⟩ (.int .i64 0)).alloc (.cells #[.string s] 9)) := (hBX.setCell (p := ⟨W1.heap.size, 0, none⟩) (Nat.le_refl _) _).alloc (by omega) _
          have hszn : ((XA1.setCell ⟨W1.heap.size, 0, none⟩ (.int .i64 0)).alloc (.cells #[.string s] 9)).heap.size = XA1.heap.size + 1 := by rw [World.size_alloc, hszX]
          have hKs : ((XA1.setCell ⟨W1.heap.size, 0, none⟩ (.int .i64 0)).alloc (.cells #[.string s] 9)).heap[DA1]? = some (.deferred (some [])) := by
            have e1 : (XA1.setCell ⟨W1.heap.size, 0, none⟩ (.int .i64 0)).heap[DA1]? = some (.deferred (some [])) := ((grownBy_setCell' XA1 W1.heap.size (.int .i64 0)).block DA1 hlD (fun e => by cases e; omega)).trans hK
            exact ((Below.refl _ _).alloc (Nat.le_refl _) _ : Below _ _ _).block DA1 (Array.getElem?_eq_some_iff.1 e1).1 |>.trans e1
          rw [hszX] at bs
          try simp only [hszX]
          generalize (XA1.setCell ⟨W1.heap.size, 0, none⟩ (.int .i64 0)).alloc (.cells #[.string s] 9) = WB at *
          clear hK hn hBX hszX HK
          apply rangeX (gf := 28) (lb := #[.pointer (some ⟨XA1.heap.size, 0, none⟩)]) (encs := encC) rfl (enters_of Try.func28 (by kernel_rfl) rfl)
            (uback_x (fun _ => False) (fun k => k = XA1.heap.size) XA1.heap.size s WB (by omega) rfl (by omega) bs.cell) (Below.refl _ _) (fun k h => by omega) (fun _ => rfl)
            (fun pre Y => (Boxed Y W1.heap.size 3 (.int .i64 (pre.length : Int)) ∧ Y.heap[DA1]? = some (.deferred (some []))) ∧ Below W1.heap.size W1 Y)
            (fun c pre Y => (c = .exit 4 ∧ ((1 : Int) = 1 ∧ ((pre.length : Int) = stop ∧ (Boxed Y W1.heap.size 3 (.int .i64 (pre.length : Int)) ∧ Y.heap[DA1]? = some (.deferred (some [])))))) ∧ Below W1.heap.size W1 Y)
            (Stab.and (Stab.and (Stab.boxed _ _ (by omega)) (Stab.at _ (by omega))) (Stab.below (by omega) (Nat.le_refl _)))
            (fun c => Stab.and (Stab.and (Stab.pure _) (Stab.and (Stab.pure _) (Stab.and (Stab.pure _) (Stab.and (Stab.boxed _ _ (by omega)) (Stab.at _ (by omega)))))) (Stab.below (by omega) (Nat.le_refl _)))
            ⟨⟨bn, hKs⟩, hBn⟩
          case hassign =>
            intro l' x X K hK
            simp only [encC]
            gi_wp2
            exact hK
          case hbody =>
            rintro l' pre x X ⟨⟨hn, hKD⟩, hBX⟩ hpx
            obtain ⟨hpl, hget⟩ := take_of_preT hpx
            obtain ⟨h0, h1, h2, h3, hsl, hBw, -⟩ := FW1.out X hBX
            rw [List.length_reverse] at hpl
            rw [List.getElem?_reverse hpl] at hget
            rw [HN.out] at hget hpl
            obtain ⟨j, hj⟩ : ∃ j, N - 1 - pre.length = j := ⟨_, rfl⟩
            rw [hj] at hget
            obtain ⟨b, rfl, -, hcl⟩ : ∃ b, a = some ⟨b, 0, none⟩ ∧ b < X.heap.size ∧ ∀ (i : Nat) (e : Nat × Nat × Nat), (Cs 0 (bl s))[i]? = some e →
                X.cell? ⟨b, i * 4, none⟩ = some (.int .i64 (e.1 : Int)) ∧ X.cell? ⟨b, i * 4 + 1, none⟩ = some (.int .i32 (e.2.1 : Int)) ∧ X.cell? ⟨b, i * 4 + 2, none⟩ = some (.int .i64 (e.2.2 : Int)) ∧ X.cell? ⟨b, i * 4 + 3, none⟩ = some (.bool (rightE e)) := by
              rcases hsl with h | h
              · rw [h] at hget; cases hget
              · exact h
            obtain ⟨y0, y1, -, -⟩ := hcl _ _ hget
            have hlw := (Array.getElem?_eq_some_iff.1 (show _ = some _ from (FW1.out W1 (Below.refl _ _)).1)).1
            have hlt := (Array.getElem?_eq_some_iff.1 (show _ = some _ from (FW1.out W1 (Below.refl _ _)).2.2.2.1)).1
            have cn := hn.cell
            have fn' := hn.frozen
            have c2 := h2.cell
            have cn' := (hn.set (.int .i64 ((pre.length : Int) + 1))).cell
            have c0' := (h0.other (B' := W1.heap.size) (by omega) (.int .i64 ((pre.length : Int) + 1))).cell
            have c3' := (h3.other (B' := W1.heap.size) (by omega) (.int .i64 ((pre.length : Int) + 1))).cell
            have hjI : (N : Int) - 1 - (pre.length : Int) = (j : Int) := by omega
            have hltI : (j : Int) < (N : Int) := by omega
            have hplI : (pre.length : Int) < (N : Int) := by omega
            have hNI : (N : Int) ≤ 1048576 := by omega
            have hne : ((x.1 : Int) != (x.1 : Int)) = false := by simp
            have hne2 : ((x.2.1 : Int) != (x.2.1 : Int)) = false := by simp
            have HX := hide (And.intro hn (And.intro hKD hBX))
            clear hj hcl hsl h0 h1 h2 h3 hBw hn hBX hget hpx hBn bn bs hKs hKD
            by_cases hst : (pre.length : Int) + 1 = stop
            · have hst' : ((pre.length : Int) + 1 == stop) = true := by simp [hst]
              have HST := hide hst
              clear hst
              gi_wp2
              obtain ⟨hn, hKD, hBX⟩ := HX.out
              have hKD' : (X.setCell ⟨W1.heap.size, 0, none⟩ (.int .i64 ((pre.length : Int) + 1))).heap[DA1]? = some (.deferred (some [])) := ((grownBy_setCell' X W1.heap.size _).block DA1 (Array.getElem?_eq_some_iff.1 hKD).1 (fun e => by cases e; omega)).trans hKD
              have hn' : Boxed (X.setCell ⟨W1.heap.size, 0, none⟩ (.int .i64 ((pre.length : Int) + 1))) W1.heap.size 3 (.int .i64 ((pre ++ [x]).length : Int)) := by
                have := hn.set (.int .i64 ((pre.length : Int) + 1))
                simpa using this
              have hst2 : ((pre ++ [x]).length : Int) = stop := by simpa using HST.out
              exact ⟨Kp.set _ (fun h => by omega) (by omega), (by first | exact ⟨rfl, rfl, hst2, hn', hKD'⟩ | exact ⟨rfl, hst2, hn', hKD'⟩), hBX.setCell (p := ⟨W1.heap.size, 0, none⟩) (Nat.le_refl _) _⟩
            · have hst' : ((pre.length : Int) + 1 == stop) = false := by simp [hst]
              clear hst
              gi_wp2
              obtain ⟨hn, hKD, hBX⟩ := HX.out
              have hKD' : (X.setCell ⟨W1.heap.size, 0, none⟩ (.int .i64 ((pre.length : Int) + 1))).heap[DA1]? = some (.deferred (some [])) := ((grownBy_setCell' X W1.heap.size _).block DA1 (Array.getElem?_eq_some_iff.1 hKD).1 (fun e => by cases e; omega)).trans hKD
              have hn' : Boxed (X.setCell ⟨W1.heap.size, 0, none⟩ (.int .i64 ((pre.length : Int) + 1))) W1.heap.size 3 (.int .i64 ((pre ++ [x]).length : Int)) := by
                have := hn.set (.int .i64 ((pre.length : Int) + 1))
                simpa using this
              exact ⟨Kp.set _ (fun h => by omega) (by omega), ⟨hn', hKD'⟩, hBX.setCell (p := ⟨W1.heap.size, 0, none⟩) (Nat.le_refl _) _⟩
          case hdone =>
            rintro DB1 XB1 hDDB1 ⟨⟨hn, hKA⟩, hBX⟩ hK
            rw [List.length_reverse, HN.out] at hn
            have hnn : (((N : Int) != (N : Int)) = false) := by simp
            clear bn hBn bs hKs
            obtain ⟨h0, h1, h2, h3, hsl, hBw, hDs⟩ := FW1.out XB1 hBX
            have cn := hn.cell
            have c2 := h2.cell
            have c3 := h3.cell
            have c0 := h0.cell
            have hlE := (Array.getElem?_eq_some_iff.1 hK).1
            have hlA := (Array.getElem?_eq_some_iff.1 hKA).1
            have hlWY := hBX.size
            have HK := hide (And.intro hK (And.intro hKA hBX))
            clear hK hKA hn hBX h0 h1 h2 h3 hsl hBw hDs
            gi_wp2
            rw [roundsIn_succ]
            obtain ⟨hK, hKA, hBX⟩ := HK.out
            have hA : Below XB1.heap.size XB1 (XB1.alloc (.cells #[.int .i64 2] 3)) := (Below.refl _ _).alloc (Nat.le_refl _) _
            have hBA : Below W1.heap.size W1 (XB1.alloc (.cells #[.int .i64 2] 3)) := bseq hBX hA
            have b3 := Boxed.new XB1 3 (.int .i64 2)
            obtain ⟨h0, h1, h2, -, hsl, hBw, hDs⟩ := FW1.out _ hBA
            have hK1 := (hA.block _ hlE).trans hK
            have hK2 := (hA.block _ hlA).trans hKA
            have hlW1 := (Array.getElem?_eq_some_iff.1 (show _ = some _ from (FW1.out W1 (Below.refl _ _)).2.1)).1
            have hdd := hDs DB0 (by simp)
            have hdd2 := hDs DA0 (by simp)
            have hl1 := (Array.getElem?_eq_some_iff.1 ((FW1.out W1 (Below.refl _ _)).2.2.2.2.2.2 DB0 (by simp)).2).1
            have hl2 := (Array.getElem?_eq_some_iff.1 ((FW1.out W1 (Below.refl _ _)).2.2.2.2.2.2 DA0 (by simp)).2).1
            generalize XB1.alloc (.cells #[.int .i64 2] 3) = Z at *
            have endS : ∀ X2, Below Z.heap.size Z X2 → ∀ tmps : Array Value, tmps.getD 4 undef = .pointer (some ⟨w.heap.size + 1, 0, none⟩) →
                LeavesInM Fence.wide 3 Try.prog Try.f3 tmps (fun e w' => e = .returned (.bool true) ∧ Below w.heap.size w w') [mk1 DB1, mk1 DA1, mk1 DB0, mk1 DA0] .returning (X2.setCell ⟨w.heap.size + 1, 0, none⟩ (.bool true)) := by
              intro X2 hX2 tmps ht
              refine leaves_box (p := 4) (ty := 4) (g := w.heap.size + 1) (t := 4) (B := w.heap.size) (w0 := w) rfl ht (fun w' hw => load_boolT hw) (Nat.le_refl _) [DB1, DA1, DB0, DA0] _ (by simp; omega) (fun d hd => ?_) ((below_boxed_t hX2 h1).set _) ((bseq hBw hX2).setCell (p := ⟨w.heap.size + 1, 0, none⟩) (Nat.le_add_right _ _) _)
              have key : ∀ d, w.heap.size + 1 < d → Z.heap[d]? = some (.deferred (some [])) → (X2.setCell ⟨w.heap.size + 1, 0, none⟩ (.bool true)).heap[d]? = some (.deferred (some [])) := fun d hd h => by
                have e1 := (hX2.block d (Array.getElem?_eq_some_iff.1 h).1).trans h
                refine ((grownBy_setCell' X2 (w.heap.size + 1) (.bool true)).block d (Array.getElem?_eq_some_iff.1 e1).1 (fun e => ?_)).trans e1
                cases e
                omega
              simp only [List.mem_cons, List.not_mem_nil, or_false] at hd
              rcases hd with rfl | rfl | rfl | rfl
              · exact ⟨by omega, key _ (by omega) hK1⟩
              · exact ⟨by omega, key _ (by omega) hK2⟩
              · exact ⟨by omega, key _ (by omega) hdd.2⟩
              · exact ⟨by omega, key _ (by omega) hdd2.2⟩
            have ENDS := hide endS
            have c3 := b3.cell
            have c2 := h2.cell
            have c0 := h0.cell
            have H1 := hide h1
            have kw := KW.out a cap Z hsl
            have KW2 := hide kw
            clear endS hK1 hK2 hdd hdd2 h0 h1 h2 hsl hBw hDs b3 hK hKA hBX hA hBA kw
            gi_wp2_with (refine ⟨trivial, ?_⟩; gi_at_call 10; refine ((callsIn_wide).2 KW2.out).mono ?_; rintro e X2 ⟨rfl, hX2⟩; have c1 := (below_boxed_t hX2 H1.out).cell; have f1 := (below_boxed_t hX2 H1.out).frozen)
            exact ENDS.out X2 hX2 _ rfl
          case hstop =>
            rintro DB1 c pre2 XB1 hDDB1 hpre2 ⟨⟨rfl, -, hps, hn, hKA⟩, hBX⟩ hK
            have hps2' : ((pre2.length : Int) == stop) = true := by simp [hps]
            clear bn hBn bs hKs hps
            by_cases hpn : (pre2.length : Int) = (N : Int)
            · have hpn2 : ((pre2.length : Int) != (N : Int)) = false := by simp [hpn]
              clear hpn
              obtain ⟨h0, h1, h2, h3, hsl, hBw, hDs⟩ := FW1.out XB1 hBX
              have cn := hn.cell
              have c2 := h2.cell
              have c3 := h3.cell
              have c0 := h0.cell
              have hlE := (Array.getElem?_eq_some_iff.1 hK).1
              have hlA := (Array.getElem?_eq_some_iff.1 hKA).1
              have hlWY := hBX.size
              have HK := hide (And.intro hK (And.intro hKA hBX))
              clear hK hKA hn hBX h0 h1 h2 h3 hsl hBw hDs
              gi_wp2
              rw [roundsIn_succ]
              obtain ⟨hK, hKA, hBX⟩ := HK.out
              have hA : Below XB1.heap.size XB1 (XB1.alloc (.cells #[.int .i64 2] 3)) := (Below.refl _ _).alloc (Nat.le_refl _) _
              have hBA : Below W1.heap.size W1 (XB1.alloc (.cells #[.int .i64 2] 3)) := bseq hBX hA
              have b3 := Boxed.new XB1 3 (.int .i64 2)
              obtain ⟨h0, h1, h2, -, hsl, hBw, hDs⟩ := FW1.out _ hBA
              have hK1 := (hA.block _ hlE).trans hK
              have hK2 := (hA.block _ hlA).trans hKA
              have hlW1 := (Array.getElem?_eq_some_iff.1 (show _ = some _ from (FW1.out W1 (Below.refl _ _)).2.1)).1
              have hdd := hDs DB0 (by simp)
              have hdd2 := hDs DA0 (by simp)
              have hl1 := (Array.getElem?_eq_some_iff.1 ((FW1.out W1 (Below.refl _ _)).2.2.2.2.2.2 DB0 (by simp)).2).1
              have hl2 := (Array.getElem?_eq_some_iff.1 ((FW1.out W1 (Below.refl _ _)).2.2.2.2.2.2 DA0 (by simp)).2).1
              generalize XB1.alloc (.cells #[.int .i64 2] 3) = Z at *
              have endS : ∀ X2, Below Z.heap.size Z X2 → ∀ tmps : Array Value, tmps.getD 4 undef = .pointer (some ⟨w.heap.size + 1, 0, none⟩) →
                  LeavesInM Fence.wide 3 Try.prog Try.f3 tmps (fun e w' => e = .returned (.bool true) ∧ Below w.heap.size w w') [mk1 DB1, mk1 DA1, mk1 DB0, mk1 DA0] .returning (X2.setCell ⟨w.heap.size + 1, 0, none⟩ (.bool true)) := by
                intro X2 hX2 tmps ht
                refine leaves_box (p := 4) (ty := 4) (g := w.heap.size + 1) (t := 4) (B := w.heap.size) (w0 := w) rfl ht (fun w' hw => load_boolT hw) (Nat.le_refl _) [DB1, DA1, DB0, DA0] _ (by simp; omega) (fun d hd => ?_) ((below_boxed_t hX2 h1).set _) ((bseq hBw hX2).setCell (p := ⟨w.heap.size + 1, 0, none⟩) (Nat.le_add_right _ _) _)
                have key : ∀ d, w.heap.size + 1 < d → Z.heap[d]? = some (.deferred (some [])) → (X2.setCell ⟨w.heap.size + 1, 0, none⟩ (.bool true)).heap[d]? = some (.deferred (some [])) := fun d hd h => by
                  have e1 := (hX2.block d (Array.getElem?_eq_some_iff.1 h).1).trans h
                  refine ((grownBy_setCell' X2 (w.heap.size + 1) (.bool true)).block d (Array.getElem?_eq_some_iff.1 e1).1 (fun e => ?_)).trans e1
                  cases e
                  omega
                simp only [List.mem_cons, List.not_mem_nil, or_false] at hd
                rcases hd with rfl | rfl | rfl | rfl
                · exact ⟨by omega, key _ (by omega) hK1⟩
                · exact ⟨by omega, key _ (by omega) hK2⟩
                · exact ⟨by omega, key _ (by omega) hdd.2⟩
                · exact ⟨by omega, key _ (by omega) hdd2.2⟩
              have ENDS := hide endS
              have c3 := b3.cell
              have c2 := h2.cell
              have c0 := h0.cell
              have H1 := hide h1
              have kw := KW.out a cap Z hsl
              have KW2 := hide kw
              clear endS hK1 hK2 hdd hdd2 h0 h1 h2 hsl hBw hDs b3 hK hKA hBX hA hBA kw
              gi_wp2_with (refine ⟨trivial, ?_⟩; gi_at_call 10; refine ((callsIn_wide).2 KW2.out).mono ?_; rintro e X2 ⟨rfl, hX2⟩; have c1 := (below_boxed_t hX2 H1.out).cell; have f1 := (below_boxed_t hX2 H1.out).frozen)
              exact ENDS.out X2 hX2 _ rfl
            · have hpn2 : ((pre2.length : Int) != (N : Int)) = true := by simp [hpn]
              clear hpn
              obtain ⟨h0, h1, h2, h3, hsl, hBw, hDs⟩ := FW1.out XB1 hBX
              have cn := hn.cell
              have c2 := h2.cell
              have c3 := h3.cell
              have c0 := h0.cell
              have hlE := (Array.getElem?_eq_some_iff.1 hK).1
              have hlA := (Array.getElem?_eq_some_iff.1 hKA).1
              have hlWY := hBX.size
              have HK := hide (And.intro hK (And.intro hKA hBX))
              clear hK hKA hn hBX h0 h1 h2 h3 hsl hBw hDs
              gi_wp2
              rw [roundsIn_succ]
              obtain ⟨hK, hKA, hBX⟩ := HK.out
              have hA : Below XB1.heap.size XB1 (XB1.alloc (.cells #[.int .i64 2] 3)) := (Below.refl _ _).alloc (Nat.le_refl _) _
              have hBA : Below W1.heap.size W1 (XB1.alloc (.cells #[.int .i64 2] 3)) := bseq hBX hA
              have b3 := Boxed.new XB1 3 (.int .i64 2)
              obtain ⟨h0, h1, h2, -, hsl, hBw, hDs⟩ := FW1.out _ hBA
              have hK1 := (hA.block _ hlE).trans hK
              have hK2 := (hA.block _ hlA).trans hKA
              have hlW1 := (Array.getElem?_eq_some_iff.1 (show _ = some _ from (FW1.out W1 (Below.refl _ _)).2.1)).1
              have hdd := hDs DB0 (by simp)
              have hdd2 := hDs DA0 (by simp)
              have hl1 := (Array.getElem?_eq_some_iff.1 ((FW1.out W1 (Below.refl _ _)).2.2.2.2.2.2 DB0 (by simp)).2).1
              have hl2 := (Array.getElem?_eq_some_iff.1 ((FW1.out W1 (Below.refl _ _)).2.2.2.2.2.2 DA0 (by simp)).2).1
              generalize XB1.alloc (.cells #[.int .i64 2] 3) = Z at *
              have endS : ∀ X2, Below Z.heap.size Z X2 → ∀ tmps : Array Value, tmps.getD 4 undef = .pointer (some ⟨w.heap.size + 1, 0, none⟩) →
                  LeavesInM Fence.wide 3 Try.prog Try.f3 tmps (fun e w' => e = .returned (.bool true) ∧ Below w.heap.size w w') [mk1 DB1, mk1 DA1, mk1 DB0, mk1 DA0] .returning (X2.setCell ⟨w.heap.size + 1, 0, none⟩ (.bool true)) := by
                intro X2 hX2 tmps ht
                refine leaves_box (p := 4) (ty := 4) (g := w.heap.size + 1) (t := 4) (B := w.heap.size) (w0 := w) rfl ht (fun w' hw => load_boolT hw) (Nat.le_refl _) [DB1, DA1, DB0, DA0] _ (by simp; omega) (fun d hd => ?_) ((below_boxed_t hX2 h1).set _) ((bseq hBw hX2).setCell (p := ⟨w.heap.size + 1, 0, none⟩) (Nat.le_add_right _ _) _)
                have key : ∀ d, w.heap.size + 1 < d → Z.heap[d]? = some (.deferred (some [])) → (X2.setCell ⟨w.heap.size + 1, 0, none⟩ (.bool true)).heap[d]? = some (.deferred (some [])) := fun d hd h => by
                  have e1 := (hX2.block d (Array.getElem?_eq_some_iff.1 h).1).trans h
                  refine ((grownBy_setCell' X2 (w.heap.size + 1) (.bool true)).block d (Array.getElem?_eq_some_iff.1 e1).1 (fun e => ?_)).trans e1
                  cases e
                  omega
                simp only [List.mem_cons, List.not_mem_nil, or_false] at hd
                rcases hd with rfl | rfl | rfl | rfl
                · exact ⟨by omega, key _ (by omega) hK1⟩
                · exact ⟨by omega, key _ (by omega) hK2⟩
                · exact ⟨by omega, key _ (by omega) hdd.2⟩
                · exact ⟨by omega, key _ (by omega) hdd2.2⟩
              have ENDS := hide endS
              have c3 := b3.cell
              have c2 := h2.cell
              have c0 := h0.cell
              have H1 := hide h1
              have kw := KW.out a cap Z hsl
              have KW2 := hide kw
              clear endS hK1 hK2 hdd hdd2 h0 h1 h2 hsl hBw hDs b3 hK hKA hBX hA hBA kw
              gi_wp2_with (refine ⟨trivial, ?_⟩; gi_at_call 10; refine ((callsIn_wide).2 KW2.out).mono ?_; rintro e X2 ⟨rfl, hX2⟩; have c1 := (below_boxed_t hX2 H1.out).cell; have f1 := (below_boxed_t hX2 H1.out).frozen)
              exact ENDS.out X2 hX2 _ rfl
    case hstop =>
      rintro D c pre X hD hpre ⟨⟨rfl, h, -, -⟩, -⟩ hK
      exact absurd h (by decide)
  case hstop =>
    rintro D c pre X hD hpre ⟨⟨rfl, h, -, -⟩, -⟩ hK
    exact absurd h (by decide)
end Go.Proofs.Ytfiocfhehofheaa.utfTells
