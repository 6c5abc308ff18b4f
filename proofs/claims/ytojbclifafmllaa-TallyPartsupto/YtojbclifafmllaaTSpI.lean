/- What SpareInts and KeptInts answer. -/
import Derived.Test.YtojbclifafmllaaTPl
import Derived.Test.YtojbclifafmllaaTPt
import Derived.Deep.QuietTactic
import Derived.BigQuiet
import Derived.WalkSmall
namespace Go.Proofs.Ytojbclifafmllaa
open Go.RowKit
set_option linter.unusedVariables false

/-- A row whose first m ints are those of f. -/
def IR (W : World) (g n m : Nat) (f : Nat → Int) : Prop := ∃ cur : Array Value, W.heap[g]? = some (.cells cur 3 (0, 0)) ∧ n ≤ cur.size ∧ ∀ k, k < m → cur[k]? = some (.int .i64 (f k))
theorem IR.below {W W' : World} {g n m : Nat} {f : Nat → Int} (h : IR W g n m f) (hb : Below W.heap.size W W') : IR W' g n m f := by
  obtain ⟨cur, h1, h2⟩ := h
  exact ⟨cur, row_keep h1 hb, h2⟩
theorem IR.lt {W : World} {g n m : Nat} {f : Nat → Int} (h : IR W g n m f) : g < W.heap.size := by
  obtain ⟨cur, h1, _⟩ := h
  exact (Array.getElem?_eq_some_iff.1 h1).1
theorem IR.cell {W : World} {g n m : Nat} {f : Nat → Int} (h : IR W g n m f) {k : Nat} (hk : k < m) : W.cell? ⟨g, k, none⟩ = some (.int .i64 (f k)) := by
  obtain ⟨cur, h1, h2, h3⟩ := h
  exact cell_of h1 k _ (h3 k hk)
theorem IR.any {W : World} {g n m : Nat} {f : Nat → Int} (h : IR W g n m f) {k : Nat} (hk : k < n) : ∃ v, W.cell? ⟨g, k, none⟩ = some v ∧ W.frozen? ⟨g, k, none⟩ = false := by
  obtain ⟨cur, h1, h2, h3⟩ := h
  exact ⟨cur[k], cell_of h1 k _ (Array.getElem?_eq_getElem (by omega)), frozen_of h1 k⟩
theorem IR.step {W : World} {g n k : Nat} {f : Nat → Int} (h : IR W g n k f) (hk : k < n) {z : Int} (hz : z = f k) : IR (W.setCell ⟨g, k, none⟩ (.int .i64 z)) g n (k + 1) f := by
  obtain ⟨cur, h1, h2, h3⟩ := h
  subst hz
  refine ⟨_, heap_setCell_same W g k _ _ _ h1, by simpa using h2, fun i hi => ?_⟩
  by_cases e : i = k
  · subst e
    simp [show i < cur.size by omega]
  · rw [Array.getElem?_setIfInBounds_ne (fun h => e h.symm)]
    exact h3 i (by omega)
/-- What SpareInts lays: the list, and 9 more. -/
def spf (zs : List Int) (k : Nat) : Int := (zs[k]?).getD (7700 + (k : Int))
theorem IR.sli {W : World} {g n m : Nat} {zs : List Int} (h : IR W g n m (spf zs)) (hm : zs.length ≤ m) : SlI W (some ⟨g, 0, none⟩) zs := by
  refine .inr ⟨g, 0, rfl, h.lt, fun i z hz => ?_⟩
  have hi : i < zs.length := (List.getElem?_eq_some_iff.1 hz).1
  have h1 := h.cell (k := i) (by omega)
  unfold spf at h1
  rw [hz] at h1
  rw [Nat.zero_add]
  exact h1

set_option maxHeartbeats 1000000 in
theorem spareInts_any (a : Option Addr) (cap : Nat) (zs : List Int) (w : World) (hz : SlI w a zs) (hl : zs.length ≤ 1048576) :
    Calls Try.prog 13 #[.slice a zs.length cap] w fun e w' => e = .returned (.slice (some ⟨w.heap.size, 0, none⟩) zs.length (zs.length + 9)) ∧ IR w' w.heap.size (zs.length + 9) (zs.length + 9) (spf zs) ∧ Below w.heap.size w w' := by
  obtain ⟨i0, hi, hz0, hz1, hz2⟩ := info_parts Try.info64
  obtain ⟨n, hn⟩ : ∃ n, n = zs.length := ⟨_, rfl⟩
  have hw1 : IntKind.i64.wrap ((n : Int) + 9) = (n : Int) + 9 := by rw [IntKind.wrap_i64]; omega
  have hmk : ∀ w, Sem.run Try.prog (Instr.makeSlice 34 (.int .i64 ((n : Int) + 9)) (.int .i64 ((n : Int) + 9))) w = .ok (.slice (some ⟨w.heap.size, 0, none⟩) (n + 9) (n + 9)) (w.alloc (.cells (madeCells (Value.cells (.int .i64 0)) (n + 9)) 3)) := fun w => by
    have h := run_make (P := Try.prog) w 34 3 i0 (.int .i64 0) Try.underlying34 hi hz0 .i64 .i64 ((n : Int) + 9) ((n : Int) + 9) (by omega) (by omega) (by rw [hz2]; omega) (by omega)
    rw [hz1, show (((n : Int) + 9).toNat) = n + 9 by omega, Nat.mul_one] at h
    exact h
  have hI0 : IR (w.alloc (.cells (madeCells (Value.cells (.int .i64 0)) (n + 9)) 3)) w.heap.size (n + 9) 0 (spf zs) := ⟨_, heap_alloc_new w _, by rw [size_madeCells]; exact Nat.le_refl _, fun k hk => by omega⟩
  have hB0 : Below w.heap.size w (w.alloc (.cells (madeCells (Value.cells (.int .i64 0)) (n + 9)) 3)) := (Below.refl _ w).alloc (Nat.le_refl _) _
  have HZ := hide hz
  have HN := hide hn
  have HI0 := hide hI0
  have HB0 := hide hB0
  have hln : n ≤ 1048576 := by omega
  rw [← hn]
  clear hz hn hI0 hB0 hl
  go_enter Try.func13, Try.ntmps13
  go_wp2_with (fail)
  clear hmk
  go_loopw [4] (fun i wr => ∃ k : Nat, i = .int .i64 k ∧ k ≤ n + 9 ∧ IR wr w.heap.size (n + 9) k (spf zs) ∧ Below w.heap.size w wr) (fun i _ => n + 9 - (intOf i).toNat)
  case atStart => exact ⟨0, rfl, by omega, HI0.out, HB0.out⟩
  case round =>
    clear HI0 HB0
    obtain ⟨k, rfl, hk, hI, hB⟩ := hrel
    by_cases hlt : k < n + 9
    · have hlt' : (k : Int) < ((n + 9 : Nat) : Int) := by omega
      have hlt2 : (k : Int) < (n : Int) + 9 := by omega
      obtain ⟨old, c1, f1⟩ := hI.any hlt
      have hsw := hB.size
      by_cases hkn : k < n
      · have hkl : k < zs.length := by rw [← HN.out]; exact hkn
        obtain ⟨z, hp⟩ : ∃ z, zs[k]? = some z := ⟨_, List.getElem?_eq_getElem hkl⟩
        obtain ⟨b0, off, rfl, hb0, hcl⟩ : ∃ b off, a = some ⟨b, off, none⟩ ∧ b < wr.heap.size ∧ ∀ (i : Nat) (z : Int), zs[i]? = some z → wr.cell? ⟨b, off + i, none⟩ = some (.int .i64 z) := by
          rcases HZ.out.below hB with h | h
          · rw [h] at hkl; simp at hkl
          · exact h
        have c0 := hcl k z hp
        have hfin : IR (wr.setCell ⟨w.heap.size, k, none⟩ (.int .i64 z)) w.heap.size (n + 9) (k + 1) (spf zs) := hI.step hlt (by unfold spf; rw [hp]; rfl)
        have HF := hide (And.intro hfin (hB.setCell (p := ⟨w.heap.size, k, none⟩) (Nat.le_refl _) (.int .i64 z)))
        have hkI : (k : Int) < (n : Int) := by omega
        clear hcl hI hB hfin hp
        go_wp2
        go_roundw
        case rel => exact ⟨k + 1, by go_num, by omega, HF.out.1, HF.out.2⟩
        case measure => simp [intOf]; omega
      · have hkI : (n : Int) ≤ (k : Int) := by omega
        have hw2 : IntKind.i64.wrap (7700 + (k : Int)) = 7700 + (k : Int) := by rw [IntKind.wrap_i64]; omega
        have hfin : IR (wr.setCell ⟨w.heap.size, k, none⟩ (.int .i64 (7700 + (k : Int)))) w.heap.size (n + 9) (k + 1) (spf zs) := hI.step hlt (by unfold spf; rw [List.getElem?_eq_none (by rw [← HN.out]; omega)]; rfl)
        have HF := hide (And.intro hfin (hB.setCell (p := ⟨w.heap.size, k, none⟩) (Nat.le_refl _) (.int .i64 (7700 + (k : Int)))))
        clear hI hB hfin
        go_wp2
        go_roundw
        case rel => exact ⟨k + 1, by go_num, by omega, HF.out.1, HF.out.2⟩
        case measure => simp [intOf]; omega
    · have hkk : k = n + 9 := by omega
      have HF := hide (And.intro hI hB)
      clear hI hB
      have hkI : (n : Int) + 9 ≤ (k : Int) := by omega
      have HKK := hide hkk
      clear hkk
      go_wp2
      go_ret
      refine ⟨rfl, ?_, HF.out.2⟩
      have := HF.out.1
      rw [HKK.out] at this
      exact this

set_option maxHeartbeats 400000 in
theorem eqI_yes (a b : Option Addr) (c d : Nat) (xs : List Int) (w : World) (ha : SlI w a xs) (hb : SlI w b xs) (hm : xs.length ≤ 1048576) :
    Calls Try.prog 30 #[.slice a xs.length c, .slice b xs.length d] w fun e w' => e = .returned (.bool true) ∧ Below w.heap.size w w' := by
  have hne : ((xs.length : Int) != (xs.length : Int)) = false := by simp
  have HA := hide ha
  have HB := hide hb
  clear ha hb
  go_enter Try.func30, Try.ntmps30
  go_wp2
  go_loopw [5] (fun i wr => ∃ k n : Nat, k ≤ xs.length ∧ i = .int .i64 k ∧ wr = w.drewN n) (fun i _ => xs.length - (intOf i).toNat)
  case atStart => exact ⟨0, 0, by omega, rfl, rfl⟩
  case round =>
    obtain ⟨k, n, hk, rfl, rfl⟩ := hrel
    by_cases hlt : k < xs.length
    · obtain ⟨x, hx⟩ : ∃ x, xs[k]? = some x := ⟨_, List.getElem?_eq_getElem hlt⟩
      obtain ⟨b1, o1, rfl, _, hs1⟩ : ∃ b off, a = some ⟨b, off, none⟩ ∧ b < w.heap.size ∧ ∀ (i : Nat) (x : Int), xs[i]? = some x → w.cell? ⟨b, off + i, none⟩ = some (.int .i64 x) := by
        rcases HA.out with h | h
        · rw [h] at hx; simp at hx
        · exact h
      obtain ⟨b2, o2, rfl, _, hs2⟩ : ∃ b0 off, b = some ⟨b0, off, none⟩ ∧ b0 < w.heap.size ∧ ∀ (i : Nat) (x : Int), xs[i]? = some x → w.cell? ⟨b0, off + i, none⟩ = some (.int .i64 x) := by
        rcases HB.out with h | h
        · rw [h] at hx; simp at hx
        · exact h
      have c1 := hs1 k x hx
      have c2 := hs2 k x hx
      have hki : (k : Int) < (xs.length : Int) := by omega
      have hb1 : (x != x) = false := by simp
      clear hs1 hs2 hx
      go_wp2_with (fail)
      go_quiet (fail)
      go_wp2_with (fail)
      go_roundw
      case rel => exact ⟨k + 1, n + nq, by omega, by go_num, rfl⟩
      case measure => simp [intOf]; omega
    · have hkk : (xs.length : Int) ≤ (k : Int) := by omega
      go_wp2_with (fail)
      go_ret
      exact ⟨rfl, below_drewN (Below.refl _ _) n⟩

set_option maxHeartbeats 1000000 in
theorem keptInts_yes (g : Nat) (b : Option Addr) (d : Nat) (zs : List Int) (w : World) (ha : IR w g (zs.length + 9) (zs.length + 9) (spf zs)) (hb : SlI w b zs) (hm : zs.length ≤ 1048576) :
    Calls Try.prog 16 #[.slice (some ⟨g, 0, none⟩) zs.length (zs.length + 9), .slice b zs.length d] w fun e w' => e = .returned (.bool true) ∧ Below w.heap.size w w' := by
  have KE := hide (fun w' h1 h2 => eqI_yes (some ⟨g, 0, none⟩) b (zs.length + 9) d zs w' h1 h2 hm)
  have HA := hide ha
  have HB := hide hb
  obtain ⟨n, hn⟩ : ∃ n, n = zs.length := ⟨_, rfl⟩
  have HN := hide hn
  rw [← hn] at KE ⊢
  have hln : n ≤ 1048576 := by omega
  have hw1 : IntKind.i64.wrap ((n : Int) + 9) = (n : Int) + 9 := by rw [IntKind.wrap_i64]; omega
  clear ha hb hm hn
  go_enter Try.func16, Try.ntmps16
  go_wp2_with (go_at_call 30; refine (KE.out _ (HA.out.sli (by omega)) HB.out).mono ?_; rintro e w1 ⟨rfl, hB1⟩)
  go_loopw [6] (fun i wr => ∃ k : Nat, i = .int .i64 k ∧ n ≤ k ∧ k ≤ n + 9 ∧ Below w.heap.size w wr) (fun i _ => n + 9 - (intOf i).toNat)
  case atStart => exact ⟨n, rfl, by omega, by omega, hB1⟩
  case round =>
    obtain ⟨k, rfl, hk1, hk, hB⟩ := hrel
    by_cases hlt : k < n + 9
    · have hlt2 : (k : Int) < (n : Int) + 9 := by omega
      have hw2 : IntKind.i64.wrap (7700 + (k : Int)) = 7700 + (k : Int) := by rw [IntKind.wrap_i64]; omega
      have c0 := (HA.out.below hB).cell (k := k) (by have := HN.out; omega)
      unfold spf at c0
      rw [List.getElem?_eq_none (by rw [← HN.out]; omega)] at c0
      simp only [Option.getD_none] at c0
      have hne : ((7700 + (k : Int)) != (7700 + (k : Int))) = false := by simp
      have HBx := hide hB
      clear hB hB1
      go_wp2_with (fail)
      go_roundw
      case rel => exact ⟨k + 1, by go_num, by omega, by omega, HBx.out⟩
      case measure => simp [intOf]; omega
    · have hkI : (n : Int) + 9 ≤ (k : Int) := by omega
      have HBx := hide hB
      clear hB hB1
      go_wp2_with (fail)
      go_ret
      exact ⟨rfl, HBx.out⟩
end Go.Proofs.Ytojbclifafmllaa
