/- UlogNeeds answers true for all lists of lengths and all three numbers: how many bytes records take, and which logs there may be, as the document says. -/
import Derived.Test.YtmcbkflfopfolaaRFrmM
import Derived.Deep.QuietTactic
import Derived.BigQuiet
import Derived.WalkSmall
import Derived.Test.YtmcbkflfopfolaaBase
import Derived.ProofKit
import Derived.ChangeOld
import Derived.ChangeMaps5
import Derived.SizedLaws
import Derived.JoinedCond
import Derived.ChangeSlices
import Derived.Laws.IdiomArrays
import Derived.Deep.Slices
import Derived.Test.YtmcbkflfopfolaaUgMM
namespace Go.Proofs.Ytmcbkflfopfolaa
open Go.RowKit Go.Shelf
set_option linter.unusedVariables false
set_option maxRecDepth 100000

theorem cell_of {W : World} {g : Nat} {cur : Array Value} {t : TypeId} (h : W.heap[g]? = some (.cells cur t (0, 0))) (k : Nat) (v : Value) (hv : cur[k]? = some v) : W.cell? ⟨g, k, none⟩ = some v := (cell8 h k).trans hv
theorem frozen_of {W : World} {g : Nat} {cur : Array Value} {t : TypeId} (h : W.heap[g]? = some (.cells cur t (0, 0))) (k : Nat) : W.frozen? ⟨g, k, none⟩ = false := froz8 h k
/-- A row whose first m ints are those of f. -/
def IR (W : World) (g n m : Nat) (f : Nat → Int) : Prop := ∃ cur : Array Value, W.heap[g]? = some (.cells cur 3 (0, 0)) ∧ n ≤ cur.size ∧ ∀ k, k < m → cur[k]? = some (.int .i64 (f k))
theorem IR.below {W W' : World} {g n m : Nat} {f : Nat → Int} (h : IR W g n m f) (hb : Below W.heap.size W W') : IR W' g n m f := by
  obtain ⟨cur, h1, h2⟩ := h
  exact ⟨cur, row_keepU h1 hb, h2⟩
theorem IR.lt {W : World} {g n m : Nat} {f : Nat → Int} (h : IR W g n m f) : g < W.heap.size := by
  obtain ⟨cur, h1, _⟩ := h
  exact (Array.getElem?_eq_some_iff.1 h1).1
theorem IR.cell {W : World} {g n m : Nat} {f : Nat → Int} (h : IR W g n m f) {k : Nat} (hk : k < m) : W.cell? ⟨g, k, none⟩ = some (.int .i64 (f k)) := by
  obtain ⟨cur, h1, h2, h3⟩ := h
  exact cell_of h1 k _ (h3 k hk)
theorem IR.any {W : World} {g n m : Nat} {f : Nat → Int} (h : IR W g n m f) {k : Nat} (hk : k < n) : ∃ v, W.cell? ⟨g, k, none⟩ = some v ∧ W.frozen? ⟨g, k, none⟩ = false := by
  obtain ⟨cur, h1, h2, h3⟩ := h
  exact ⟨cur[k], cell_of h1 k _ (Array.getElem?_eq_getElem (by omega)), frozen_of h1 k⟩
theorem IR.step {W : World} {g n k : Nat} {f : Nat → Int} (h : IR W g n k f) (hk : k < n) {z : Int} (hz : z = f k) : IR (W.setCell ⟨g, k, none⟩ (.int .i64 z)) g n (k + 1) f := by
  obtain ⟨cur, h1, h2, h3⟩ := h
  subst hz
  refine ⟨_, heap_setCell_same W g k _ _ _ h1, by simpa using h2, fun i hi => ?_⟩
  by_cases e : i = k
  · subst e
    simp [show i < cur.size by omega]
  · rw [Array.getElem?_setIfInBounds_ne (fun h => e h.symm)]
    exact h3 i (by omega)
/-- What SpareInts lays: the list, and 9 more. -/
def spf (zs : List Int) (k : Nat) : Int := (zs[k]?).getD (7700 + (k : Int))
theorem IR.sli {W : World} {g n m : Nat} {zs : List Int} (h : IR W g n m (spf zs)) (hm : zs.length ≤ m) : SlI W (some ⟨g, 0, none⟩) zs := by
  refine .inr ⟨g, 0, rfl, h.lt, fun i z hz => ?_⟩
  have hi : i < zs.length := (List.getElem?_eq_some_iff.1 hz).1
  have h1 := h.cell (k := i) (by omega)
  unfold spf at h1
  rw [hz] at h1
  rw [Nat.zero_add]
  exact h1

set_option maxHeartbeats 1000000 in
theorem spareInts_any (a : Option Addr) (cap : Nat) (zs : List Int) (w : World) (hz : SlI w a zs) (hl : zs.length ≤ 17592186043904) :
    Calls Try.prog 7 #[.slice a zs.length cap] w fun e w' => e = .returned (.slice (some ⟨w.heap.size, 0, none⟩) zs.length (zs.length + 9)) ∧ IR w' w.heap.size (zs.length + 9) (zs.length + 9) (spf zs) ∧ Below w.heap.size w w' := by
  obtain ⟨i0, hi, hz0, hz1, hz2⟩ := infoNum
  obtain ⟨n, hn⟩ : ∃ n, n = zs.length := ⟨_, rfl⟩
  have hw1 : IntKind.i64.wrap ((n : Int) + 9) = (n : Int) + 9 := by rw [IntKind.wrap_i64]; omega
  have hmk : ∀ w, Sem.run Try.prog (Instr.makeSlice 22 (.int .i64 ((n : Int) + 9)) (.int .i64 ((n : Int) + 9))) w = .ok (.slice (some ⟨w.heap.size, 0, none⟩) (n + 9) (n + 9)) (w.alloc (.cells (madeCells (Value.cells (.int .i64 0)) (n + 9)) 3)) := fun w => by
    have h := run_make (P := Try.prog) w 22 3 i0 (.int .i64 0) Try.underlying22 hi hz0 .i64 .i64 ((n : Int) + 9) ((n : Int) + 9) (by omega) (by omega) (by rw [hz2]; omega) (by omega)
    rw [hz1, show (((n : Int) + 9).toNat) = n + 9 by omega, Nat.mul_one] at h
    exact h
  have hI0 : IR (w.alloc (.cells (madeCells (Value.cells (.int .i64 0)) (n + 9)) 3)) w.heap.size (n + 9) 0 (spf zs) := ⟨_, heap_alloc_new w _, by rw [size_madeCells]; exact Nat.le_refl _, fun k hk => by omega⟩
  have hB0 : Below w.heap.size w (w.alloc (.cells (madeCells (Value.cells (.int .i64 0)) (n + 9)) 3)) := (Below.refl _ w).alloc (Nat.le_refl _) _
  have HZ := hide hz
  have HN := hide hn
  have HI0 := hide hI0
  have HB0 := hide hB0
  have hln : n ≤ 17592186043904 := by omega
  rw [← hn]
  clear hz hn hI0 hB0 hl
  go_enter Try.func7, Try.ntmps7
  go_wp2_with (fail)
  clear hmk
  go_loopw [4] (fun i wr => ∃ k : Nat, i = .int .i64 k ∧ k ≤ n + 9 ∧ IR wr w.heap.size (n + 9) k (spf zs) ∧ Below w.heap.size w wr) (fun i _ => n + 9 - (intOf i).toNat)
  case atStart => exact ⟨0, rfl, by omega, HI0.out, HB0.out⟩
  case round =>
    clear HI0 HB0
    obtain ⟨k, rfl, hk, hI, hB⟩ := hrel
    by_cases hlt : k < n + 9
    · have hlt' : (k : Int) < ((n + 9 : Nat) : Int) := by omega
      have hlt2 : (k : Int) < (n : Int) + 9 := by omega
      obtain ⟨old, c1, f1⟩ := hI.any hlt
      have hsw := hB.size
      by_cases hkn : k < n
      · have hkl : k < zs.length := by rw [← HN.out]; exact hkn
        obtain ⟨z, hp⟩ : ∃ z, zs[k]? = some z := ⟨_, List.getElem?_eq_getElem hkl⟩
        obtain ⟨b0, off, rfl, hb0, hcl⟩ : ∃ b off, a = some ⟨b, off, none⟩ ∧ b < wr.heap.size ∧ ∀ (i : Nat) (z : Int), zs[i]? = some z → wr.cell? ⟨b, off + i, none⟩ = some (.int .i64 z) := by
          rcases HZ.out.below hB with h | h
          · rw [h] at hkl; simp at hkl
          · exact h
        have c0 := hcl k z hp
        have hfin : IR (wr.setCell ⟨w.heap.size, k, none⟩ (.int .i64 z)) w.heap.size (n + 9) (k + 1) (spf zs) := hI.step hlt (by unfold spf; rw [hp]; rfl)
        have HF := hide (And.intro hfin (hB.setCell (p := ⟨w.heap.size, k, none⟩) (Nat.le_refl _) (.int .i64 z)))
        have hkI : (k : Int) < (n : Int) := by omega
        clear hcl hI hB hfin hp
        go_wp2
        go_roundw
        case rel => exact ⟨k + 1, by go_num, by omega, HF.out.1, HF.out.2⟩
        case measure => simp [intOf]; omega
      · have hkI : (n : Int) ≤ (k : Int) := by omega
        have hw2 : IntKind.i64.wrap (7700 + (k : Int)) = 7700 + (k : Int) := by rw [IntKind.wrap_i64]; omega
        have hfin : IR (wr.setCell ⟨w.heap.size, k, none⟩ (.int .i64 (7700 + (k : Int)))) w.heap.size (n + 9) (k + 1) (spf zs) := hI.step hlt (by unfold spf; rw [List.getElem?_eq_none (by rw [← HN.out]; omega)]; rfl)
        have HF := hide (And.intro hfin (hB.setCell (p := ⟨w.heap.size, k, none⟩) (Nat.le_refl _) (.int .i64 (7700 + (k : Int)))))
        clear hI hB hfin
        go_wp2
        go_roundw
        case rel => exact ⟨k + 1, by go_num, by omega, HF.out.1, HF.out.2⟩
        case measure => simp [intOf]; omega
    · have hkk : k = n + 9 := by omega
      have HF := hide (And.intro hI hB)
      clear hI hB
      have hkI : (n : Int) + 9 ≤ (k : Int) := by omega
      have HKK := hide hkk
      clear hkk
      go_wp2
      go_ret
      refine ⟨rfl, ?_, HF.out.2⟩
      have := HF.out.1
      rw [HKK.out] at this
      exact this

set_option maxHeartbeats 400000 in
theorem eqI_yes (a b : Option Addr) (c d : Nat) (xs : List Int) (w : World) (ha : SlI w a xs) (hb : SlI w b xs) (hm : xs.length ≤ 17592186043904) :
    Calls Try.prog 30 #[.slice a xs.length c, .slice b xs.length d] w fun e w' => e = .returned (.bool true) ∧ Below w.heap.size w w' := by
  have hne : ((xs.length : Int) != (xs.length : Int)) = false := by simp
  have HA := hide ha
  have HB := hide hb
  clear ha hb
  go_enter Try.func30, Try.ntmps30
  go_wp2
  go_loopw [5] (fun i wr => ∃ k n : Nat, k ≤ xs.length ∧ i = .int .i64 k ∧ wr = w.drewN n) (fun i _ => xs.length - (intOf i).toNat)
  case atStart => exact ⟨0, 0, by omega, rfl, rfl⟩
  case round =>
    obtain ⟨k, n, hk, rfl, rfl⟩ := hrel
    by_cases hlt : k < xs.length
    · obtain ⟨x, hx⟩ : ∃ x, xs[k]? = some x := ⟨_, List.getElem?_eq_getElem hlt⟩
      obtain ⟨b1, o1, rfl, _, hs1⟩ : ∃ b off, a = some ⟨b, off, none⟩ ∧ b < w.heap.size ∧ ∀ (i : Nat) (x : Int), xs[i]? = some x → w.cell? ⟨b, off + i, none⟩ = some (.int .i64 x) := by
        rcases HA.out with h | h
        · rw [h] at hx; simp at hx
        · exact h
      obtain ⟨b2, o2, rfl, _, hs2⟩ : ∃ b0 off, b = some ⟨b0, off, none⟩ ∧ b0 < w.heap.size ∧ ∀ (i : Nat) (x : Int), xs[i]? = some x → w.cell? ⟨b0, off + i, none⟩ = some (.int .i64 x) := by
        rcases HB.out with h | h
        · rw [h] at hx; simp at hx
        · exact h
      have c1 := hs1 k x hx
      have c2 := hs2 k x hx
      have hki : (k : Int) < (xs.length : Int) := by omega
      have hb1 : (x != x) = false := by simp
      clear hs1 hs2 hx
      go_wp2_with (fail)
      go_quiet (fail)
      go_wp2_with (fail)
      go_roundw
      case rel => exact ⟨k + 1, n + nq, by omega, by go_num, rfl⟩
      case measure => simp [intOf]; omega
    · have hkk : (xs.length : Int) ≤ (k : Int) := by omega
      go_wp2_with (fail)
      go_ret
      exact ⟨rfl, below_drewN (Below.refl _ _) n⟩

set_option maxHeartbeats 1000000 in
theorem keptInts_yes (g : Nat) (b : Option Addr) (d : Nat) (zs : List Int) (w : World) (ha : IR w g (zs.length + 9) (zs.length + 9) (spf zs)) (hb : SlI w b zs) (hm : zs.length ≤ 17592186043904) :
    Calls Try.prog 10 #[.slice (some ⟨g, 0, none⟩) zs.length (zs.length + 9), .slice b zs.length d] w fun e w' => e = .returned (.bool true) ∧ Below w.heap.size w w' := by
  have KE := hide (fun w' h1 h2 => eqI_yes (some ⟨g, 0, none⟩) b (zs.length + 9) d zs w' h1 h2 hm)
  have HA := hide ha
  have HB := hide hb
  obtain ⟨n, hn⟩ : ∃ n, n = zs.length := ⟨_, rfl⟩
  have HN := hide hn
  rw [← hn] at KE ⊢
  have hln : n ≤ 17592186043904 := by omega
  have hw1 : IntKind.i64.wrap ((n : Int) + 9) = (n : Int) + 9 := by rw [IntKind.wrap_i64]; omega
  clear ha hb hm hn
  go_enter Try.func10, Try.ntmps10
  go_wp2_with (go_at_call 30; refine (KE.out _ (HA.out.sli (by omega)) HB.out).mono ?_; rintro e w1 ⟨rfl, hB1⟩)
  go_loopw [6] (fun i wr => ∃ k : Nat, i = .int .i64 k ∧ n ≤ k ∧ k ≤ n + 9 ∧ Below w.heap.size w wr) (fun i _ => n + 9 - (intOf i).toNat)
  case atStart => exact ⟨n, rfl, by omega, by omega, hB1⟩
  case round =>
    obtain ⟨k, rfl, hk1, hk, hB⟩ := hrel
    by_cases hlt : k < n + 9
    · have hlt2 : (k : Int) < (n : Int) + 9 := by omega
      have hw2 : IntKind.i64.wrap (7700 + (k : Int)) = 7700 + (k : Int) := by rw [IntKind.wrap_i64]; omega
      have c0 := (HA.out.below hB).cell (k := k) (by have := HN.out; omega)
      unfold spf at c0
      rw [List.getElem?_eq_none (by rw [← HN.out]; omega)] at c0
      simp only [Option.getD_none] at c0
      have hne : ((7700 + (k : Int)) != (7700 + (k : Int))) = false := by simp
      have HBx := hide hB
      clear hB hB1
      go_wp2_with (fail)
      go_roundw
      case rel => exact ⟨k + 1, by go_num, by omega, by omega, HBx.out⟩
      case measure => simp [intOf]; omega
    · have hkI : (n : Int) + 9 ≤ (k : Int) := by omega
      have HBx := hide hB
      clear hB hB1
      go_wp2_with (fail)
      go_ret
      exact ⟨rfl, HBx.out⟩
end Go.Proofs.Ytmcbkflfopfolaa
namespace Go.Proofs.Ytmcbkflfopfolaa
open Go.RowKit Go.Shelf
set_option linter.unusedVariables false
set_option maxRecDepth 100000

set_option maxHeartbeats 400000 in
theorem rneed_any {w : World} {a : Option Addr} {zs : List Int} (cap m : Nat) (h : SlZ w a zs) (hm : zs.length = m) (hl : m ≤ 17592186043904) :
    Calls Try.prog 9 #[.slice a m cap] w fun e w' => e = .returned (.tuple #[.int .i64 (needV 0 zs).1, .int .i64 (needV 0 zs).2]) ∧ w' = w := by
  have H := hide h
  have HM := hide hm
  obtain ⟨V, hV⟩ : ∃ V, needV 0 zs = V := ⟨_, rfl⟩
  rw [hV]
  have HV := hide hV
  have KR := hide (fun (n : Int) (h3 : n ≤ 9223372036854775807) => roundR_any n 8 h3 (by omega) w)
  clear h hm hV
  go_enter Try.func9, Try.ntmps9
  go_wp2
  go_loopw [4, 5] (fun sv iv wr => ∃ (j : Nat) (s : Int), iv = .int .i64 (j : Int) ∧ sv = .int .i64 s ∧ j ≤ m ∧ wr = w ∧ 0 ≤ s ∧ s ≤ 9223372036854775807 ∧ needV s (zs.drop j) = V) (fun _ iv _ => (m - (intOf iv).toNat))
  case atStart => exact ⟨0, 0, rfl, rfl, Nat.zero_le _, rfl, by omega, by omega, HV.out⟩
  case round =>
    obtain ⟨j, s, rfl, rfl, hj, rfl, hs0, hs1, hnv⟩ := hrel
    have HNV := hide hnv
    clear hnv
    by_cases hlt : j < m
    · obtain ⟨k, hk⟩ : ∃ k, zs[j]? = some k := ⟨_, List.getElem?_eq_getElem (by rw [HM.out]; exact hlt)⟩
      obtain ⟨hb, hr⟩ := H.out
      have hkb := hb k (List.mem_of_getElem? hk)
      have hst := needV_step hk s
      rw [HNV.out] at hst
      obtain ⟨g, o, hga, hc⟩ : ∃ g o, a = some ⟨g, o, none⟩ ∧ wr.cell? ⟨g, o + j, none⟩ = some (.int .i64 k) := by
        rcases hr with h0 | ⟨g, o, h1, _, h3⟩
        · rw [h0] at hk; cases hk
        · exact ⟨g, o, h1, h3 j k hk⟩
      subst hga
      have l0 := index_int g o j m cap hlt wr
      have jI : (j : Int) < (m : Int) := by omega
      have hge := roundV_ge k
      have KRk := hide (KR.out k hkb.2)
      obtain ⟨r, c, hrc⟩ : ∃ r c, roundV k 8 = (r, c) := ⟨_, _, rfl⟩
      rw [hrc] at hst KRk hge
      simp only at hst hge
      have HST := hide hst
      have wm1 : IntKind.i64.wrap (9223372036854775783 - s) = 9223372036854775783 - s := by rw [IntKind.wrap_i64]; omega
      clear hst hr hb hk
      by_cases q1 : k < 1
      · have e := HST.out
        rw [if_pos (.inl q1)] at e
        subst e
        go_wp2_with (go_at_call 29; refine (KRk.out).mono ?_; rintro e w' ⟨rfl, hw⟩; obtain rfl := hw.symm)
        go_ret2
        exact ⟨rfl, rfl⟩
      · by_cases q2 : c = 0
        · subst q2
          have hge2 := hge rfl
          by_cases q3 : 9223372036854775783 - s < r
          · have e := HST.out
            rw [if_pos (.inr (.inr q3))] at e
            subst e
            go_wp2_with (go_at_call 29; refine (KRk.out).mono ?_; rintro e w' ⟨rfl, hw⟩; obtain rfl := hw.symm)
            go_ret2
            exact ⟨rfl, rfl⟩
          · have e := HST.out
            rw [if_neg (by simp; omega)] at e
            have HE := hide e
            have wm2 : IntKind.i64.wrap (s + 24) = s + 24 := by rw [IntKind.wrap_i64]; omega
            have wm3 : IntKind.i64.wrap (s + 24 + r) = s + (24 + r) := by rw [IntKind.wrap_i64]; omega
            clear e
            go_wp2_with (go_at_call 29; refine (KRk.out).mono ?_; rintro e w' ⟨rfl, hw⟩; obtain rfl := hw.symm)
            go_roundw
            case rel => exact ⟨j + 1, s + (24 + r), int_congrP (by omega), rfl, by omega, trivial, by omega, by omega, HE.out.symm⟩
            case measure => simp [intOf]; omega
        · have e := HST.out
          rw [if_pos (.inr (.inl q2))] at e
          subst e
          have hcb : (c == 0) = false := by simpa using q2
          go_wp2_with (go_at_call 29; refine (KRk.out).mono ?_; rintro e w' ⟨rfl, hw⟩; obtain rfl := hw.symm)
          go_ret2
          exact ⟨rfl, rfl⟩
    · have jI : ¬ (j : Int) < (m : Int) := by omega
      have hz : zs.drop j = [] := List.drop_eq_nil_of_le (by have := HM.out; omega)
      have e := HNV.out
      rw [hz] at e
      have e2 : V = (s, 0) := e.symm
      subst e2
      clear e
      go_wp2
      go_ret2
      exact ⟨rfl, rfl⟩

/-- May a log lie there, on a device of m lines? -/
def okL (m : Nat) (a z : Int) : Prop := 64 ≤ a ∧ a % 64 = 0 ∧ 128 ≤ z ∧ z % 64 = 0 ∧ a ≤ ((64 * m : Nat) : Int) - z
theorem tmod_ge {a : Int} (h : 0 ≤ a) : Int.tmod a 64 = a % 64 := Int.tmod_eq_emod_of_nonneg h
set_option maxHeartbeats 1000000 in
theorem lopen_no {w : World} {b : Nat} {L : Lay} {σ : St} (hd : DevL w b L σ) (hn : σ.n ≤ 65536) (hn1 : 1 ≤ σ.n) (a z : Int) (ha : -9223372036854775808 ≤ a ∧ a ≤ 9223372036854775807) (hz : -9223372036854775808 ≤ z ∧ z ≤ 9223372036854775807) (hno : ¬ okL σ.n a z) :
    Calls Try.prog 14 #[.pointer (some ⟨b, 0, none⟩), .int .i64 a, .int .i64 z] w fun e w' => e = .returned (.tuple #[.pointer none, .int .i64 2]) ∧ w' = w := by
  have ksz := psize_any hd hn
  have hN0 : ((64 * σ.n : Nat) : Int) ≠ 0 := by omega
  have hNm : 64 * σ.n ≤ 4194304 := by omega
  unfold okL at hno
  obtain ⟨N, hN⟩ : ∃ N, 64 * σ.n = N := ⟨_, rfl⟩
  rw [hN] at hN0 ksz hno hNm
  have KSZ := hide ksz
  have hN0b : ((N : Int) == 0) = false := by simpa using hN0
  clear ksz hd hN hn hn1
  by_cases h1 : a < 64
  · go_enter Try.func14, Try.ntmps14
    go_wp2_with (go_at_call 34; refine (KSZ.out).mono ?_; rintro e w' ⟨rfl, hw⟩; obtain rfl := hw.symm)
    go_ret2
    exact ⟨rfl, rfl⟩
  · obtain ⟨ra, hra⟩ : ∃ ra, Int.tmod a 64 = ra := ⟨_, rfl⟩
    have ea := tmod_ge (a := a) (by omega)
    by_cases h2 : ra = 0
    · subst h2
      by_cases h3 : z < 128
      · clear ea
        go_enter Try.func14, Try.ntmps14
        go_wp2_with (go_at_call 34; refine (KSZ.out).mono ?_; rintro e w' ⟨rfl, hw⟩; obtain rfl := hw.symm)
        go_ret2
        exact ⟨rfl, rfl⟩
      · obtain ⟨rz, hrz⟩ : ∃ rz, Int.tmod z 64 = rz := ⟨_, rfl⟩
        have ez := tmod_ge (a := z) (by omega)
        by_cases h4 : rz = 0
        · subst h4
          have h5 : (N : Int) - z < a := by
            refine Int.not_le.1 fun h => hno ⟨by omega, by omega, by omega, by omega, h⟩
          have wm : IntKind.i64.wrap ((N : Int) - z) = (N : Int) - z := by rw [IntKind.wrap_i64]; omega
          clear ea ez hno
          go_enter Try.func14, Try.ntmps14
          go_wp2_with (go_at_call 34; refine (KSZ.out).mono ?_; rintro e w' ⟨rfl, hw⟩; obtain rfl := hw.symm)
          go_ret2
          exact ⟨rfl, rfl⟩
        · clear ea ez
          go_enter Try.func14, Try.ntmps14
          go_wp2_with (go_at_call 34; refine (KSZ.out).mono ?_; rintro e w' ⟨rfl, hw⟩; obtain rfl := hw.symm)
          go_ret2
          exact ⟨rfl, rfl⟩
    · clear ea
      go_enter Try.func14, Try.ntmps14
      go_wp2_with (go_at_call 34; refine (KSZ.out).mono ?_; rintro e w' ⟨rfl, hw⟩; obtain rfl := hw.symm)
      go_ret2
      exact ⟨rfl, rfl⟩
set_option maxHeartbeats 1000000 in
theorem ropen_any {w : World} {b N : Nat} (hc : w.cell? ⟨b, 0, none⟩ = some (.int .i64 (N : Int))) (m : Nat) (hN : 64 * m = N) (hm : m ≤ 65536) (a z : Int) (ha : -9223372036854775808 ≤ a ∧ a ≤ 9223372036854775807) (hz : -9223372036854775808 ≤ z ∧ z ≤ 9223372036854775807) :
    Calls Try.prog 15 #[.pointer (some ⟨b, 0, none⟩), .int .i64 a, .int .i64 z] w fun e w' => ((okL m a z ∧ e = .returned (.tuple #[.pointer (some ⟨w.heap.size, 0, none⟩), .int .i64 0])) ∨ (¬ okL m a z ∧ e = .returned (.tuple #[.pointer none, .int .i64 2]))) ∧ Below w.heap.size w w' := by
  have hNm : N ≤ 4194304 := by omega
  have HM := hide (And.intro hN hm)
  clear hm
  rw [show (okL m a z) = (64 ≤ a ∧ a % 64 = 0 ∧ 128 ≤ z ∧ z % 64 = 0 ∧ a ≤ (N : Int) - z) by unfold okL; rw [hN]]
  clear hN
  generalize hP : (64 ≤ a ∧ a % 64 = 0 ∧ 128 ≤ z ∧ z % 64 = 0 ∧ a ≤ (N : Int) - z) = P
  have HP := hide hP
  clear hP
  by_cases h1 : a < 64
  · go_enter Try.func15, Try.ntmps15
    go_wp2
    go_ret2
    exact ⟨.inr ⟨fun h => by rw [← HP.out] at h; omega, rfl⟩, Below.refl _ _⟩
  · obtain ⟨ra, hra⟩ : ∃ ra, Int.tmod a 64 = ra := ⟨_, rfl⟩
    have ea := tmod_ge (a := a) (by omega)
    by_cases h2 : ra = 0
    · subst h2
      by_cases h3 : z < 128
      · clear ea
        go_enter Try.func15, Try.ntmps15
        go_wp2
        go_ret2
        exact ⟨.inr ⟨fun h => by rw [← HP.out] at h; omega, rfl⟩, Below.refl _ _⟩
      · obtain ⟨rz, hrz⟩ : ∃ rz, Int.tmod z 64 = rz := ⟨_, rfl⟩
        have ez := tmod_ge (a := z) (by omega)
        by_cases h4 : rz = 0
        · subst h4
          have ea2 : a % 64 = 0 := by omega
          have ez2 : z % 64 = 0 := by omega
          clear ea ez
          by_cases h5 : (N : Int) < a
          · go_enter Try.func15, Try.ntmps15
            go_wp2
            go_ret2
            exact ⟨.inr ⟨fun h => by rw [← HP.out] at h; omega, rfl⟩, Below.refl _ _⟩
          · have wm : IntKind.i64.wrap ((N : Int) - a) = (N : Int) - a := by rw [IntKind.wrap_i64]; omega
            by_cases h6 : (N : Int) - a < z
            · go_enter Try.func15, Try.ntmps15
              go_wp2
              go_ret2
              exact ⟨.inr ⟨fun h => by rw [← HP.out] at h; omega, rfl⟩, Below.refl _ _⟩
            · go_enter Try.func15, Try.ntmps15
              go_wp2
              go_ret2
              exact ⟨.inl ⟨by rw [← HP.out]; exact ⟨by omega, by omega, by omega, by omega, by omega⟩, rfl⟩, (Below.refl _ _).alloc (Nat.le_refl _) _⟩
        · clear ea
          go_enter Try.func15, Try.ntmps15
          go_wp2
          go_ret2
          exact ⟨.inr ⟨fun h => by rw [← HP.out] at h; omega, rfl⟩, Below.refl _ _⟩
    · go_enter Try.func15, Try.ntmps15
      go_wp2
      go_ret2
      exact ⟨.inr ⟨fun h => by rw [← HP.out] at h; omega, rfl⟩, Below.refl _ _⟩
theorem rnew_any (w : World) (m : Nat) (h1 : 1 ≤ m) (h2 : m ≤ 65536) : Calls Try.prog 13 #[.int .i64 ((64 * m : Nat) : Int)] w fun e w' => ∃ b, e = .returned (.tuple #[.pointer (some ⟨b, 0, none⟩), .int .i64 0]) ∧ b < w'.heap.size ∧ w'.cell? ⟨b, 0, none⟩ = some (.int .i64 ((64 * m : Nat) : Int)) ∧ Below w.heap.size w w' := by
  obtain ⟨i0, hi, hz0, hz1, hz2⟩ := infoU8
  obtain ⟨N, hN⟩ : ∃ N, 64 * m = N := ⟨_, rfl⟩
  rw [hN]
  have hfit : fitS (N : Int) := ⟨by omega, by omega, by omega⟩
  have kf := rfits_any (N : Int) w (by omega) (by omega)
  have hmk : ∀ w, Sem.run Try.prog (Instr.makeSlice 55 (.int .i64 (N : Int)) (.int .i64 (N : Int))) w = .ok (.slice (some ⟨w.heap.size, 0, none⟩) N N) (w.alloc (.cells (madeCells #[.int .u8 0] N) 5)) := fun w => by
    have h := run_make (P := Try.prog) w 55 5 i0 (.int .u8 0) Try.underlying55 hi hz0 .i64 .i64 (N : Int) (N : Int) (by omega) (by omega) (by rw [hz2]; omega) (by omega)
    simp only [hz1, Nat.mul_one, Int.toNat_natCast] at h
    exact h
  have hO := OwnB.made w N
  have hB : Below w.heap.size w (w.alloc (.cells (madeCells #[.int .u8 0] N) 5)) := (Below.refl _ _).alloc (Nat.le_refl _) _
  have kr := rfrom_any (w.alloc (.cells (madeCells #[.int .u8 0] N) 5)) w.heap.size 0 N N m (List.replicate N 0) (fun i y hy => ⟨by rw [Nat.zero_add]; exact hO.cell i y hy, by have := List.eq_of_mem_replicate (List.mem_of_getElem? hy); omega⟩) hO.lt (by simp) hN.symm h1 h2 (fun x hx => by have := List.eq_of_mem_replicate hx; omega) (Nat.le_refl _)
  have KF := hide kf
  have KR := hide kr
  have HB := hide hB
  have HFIT := hide hfit
  have HN := hide hN
  have hmk0 := hmk w
  clear kf kr hB hO hfit hmk hN
  go_enter Try.func13, Try.ntmps13
  go_wp2_with (first
    | (go_at_call 32; refine (KF.out).mono ?_; rintro e w' ⟨⟨_, rfl⟩ | ⟨hx, _⟩, hw⟩; rotate_left; (exact absurd HFIT.out hx); obtain rfl := hw.symm)
    | (go_at_call 33; refine (KR.out).mono ?_; rintro e W1 ⟨b, M, rfl, hr, _, hb⟩; have HR := hide hr; have HB1 := hide (bseq HB.out hb); clear hr hb))
  go_ret2
  exact ⟨b, rfl, lt_of_heap HR.out.dev, by rw [← HN.out]; exact cell8 HR.out.dev 0, HB1.out⟩
end Go.Proofs.Ytmcbkflfopfolaa
namespace Go.Proofs.Ytmcbkflfopfolaa
open Go.RowKit Go.Shelf
set_option linter.unusedVariables false
set_option maxRecDepth 100000

theorem SlZ.of {w : World} {a : Option Addr} {zs : List Int} (h : SlI w a zs) (hb : ∀ z ∈ zs, -9223372036854775808 ≤ z ∧ z ≤ 9223372036854775807) : SlZ w a zs := ⟨hb, h.imp id (fun ⟨g, o, h1, h2, h3⟩ => ⟨g, o, h1, h2, h3⟩)⟩
theorem SlZ.sli {w : World} {a : Option Addr} {zs : List Int} (h : SlZ w a zs) : SlI w a zs := h.2.imp id (fun ⟨g, o, h1, h2, h3⟩ => ⟨g, o, h1, h2, h3⟩)
/-- What stays over all calls: the three numbers, what lay ahead. -/
structure Nd (w W : World) (x0 x1 x2 : Int) : Prop where
  bel : Below w.heap.size w W
  arr : W.heap[w.heap.size]? = some (.cells #[.int .i64 x0, .int .i64 x1, .int .i64 x2] 23 (0, 0))
theorem Nd.go {w W W' : World} {x0 x1 x2 : Int} (h : Nd w W x0 x1 x2) (hB : Below W.heap.size W W') : Nd w W' x0 x1 x2 := ⟨bseq h.bel hB, row_keepU h.arr hB⟩
theorem Nd.c0 {w W : World} {x0 x1 x2 : Int} (h : Nd w W x0 x1 x2) : W.cell? ⟨w.heap.size, 0, none⟩ = some (.int .i64 x0) := cell8 h.arr 0
theorem Nd.c1 {w W : World} {x0 x1 x2 : Int} (h : Nd w W x0 x1 x2) : W.cell? ⟨w.heap.size, 1, none⟩ = some (.int .i64 x1) := cell8 h.arr 1
theorem Nd.c2 {w W : World} {x0 x1 x2 : Int} (h : Nd w W x0 x1 x2) : W.cell? ⟨w.heap.size, 2, none⟩ = some (.int .i64 x2) := cell8 h.arr 2
set_option maxHeartbeats 4000000 in
theorem ulogNeeds_walk (w : World) (a : Option Addr) (cap : Nat) (zs : List Int) (h : SlZ w a zs) (hn : zs.length ≤ 17592186043904) (x0 x1 x2 : Int) (b0 : -9223372036854775808 ≤ x0 ∧ x0 ≤ 9223372036854775807) (b1 : -9223372036854775808 ≤ x1 ∧ x1 ≤ 9223372036854775807) (b2 : -9223372036854775808 ≤ x2 ∧ x2 ≤ 9223372036854775807) :
    Calls Try.prog 3 #[.slice a zs.length cap, .agg #[.int .i64 x0, .int .i64 x1, .int .i64 x2]] w fun e w' => e = .returned (.bool true) ∧ Below w.heap.size w w' := by
  have hA : Below w.heap.size w (w.alloc (.cells #[.int .i64 x0, .int .i64 x1, .int .i64 x2] 23)) := (Below.refl _ w).alloc (Nat.le_refl _) _
  have hnd : Nd w (w.alloc (.cells #[.int .i64 x0, .int .i64 x1, .int .i64 x2] 23)) x0 x1 x2 := ⟨hA, heap_alloc_new w _⟩
  have hbz := h.1
  have KS := hide (spareInts_any a cap zs (w.alloc (.cells #[.int .i64 x0, .int .i64 x1, .int .i64 x2] 23)) (h.sli.below hA) hn)
  have KL := hide (fun W (hB : Below w.heap.size w W) => SlZ.of (h.sli.below hB) hbz)
  have hV : ∃ V, needV 0 zs = V := ⟨_, rfl⟩
  obtain ⟨V, hV⟩ := hV
  have kn0 := fun (W : World) (g c : Nat) (hs : SlZ W (some ⟨g, 0, none⟩) zs) => need_any c zs.length hs rfl (by omega)
  have km0 := fun (W : World) (hs : SlZ W a zs) => rneed_any cap zs.length hs rfl (by omega)
  rw [hV] at kn0 km0
  have KK := hide (fun (W : World) (g : Nat) (hi : IR W g (zs.length + 9) (zs.length + 9) (spf zs)) (hs : SlI W a zs) => keptInts_yes g a cap zs W hi hs hn)
  have HND := hide hnd
  have HBZ := hide hbz
  obtain ⟨m, hm⟩ : ∃ m : Nat, (m : Int) = 1 + x0 % 12 := ⟨(1 + x0 % 12).toNat, by omega⟩
  have hm1 : 1 ≤ m := by omega
  have hm2 : m ≤ 65536 := by omega
  obtain ⟨xv, hxv⟩ : ∃ xv, x0 % 12 = xv := ⟨_, rfl⟩
  have KW := hide (fun W => uwithin_any W x0 12 (by omega) (by omega) b0.1 b0.2)
  rw [hxv] at KW hm
  have w1 : IntKind.i64.wrap (1 + xv) = (m : Int) := by rw [IntKind.wrap_i64]; omega
  have w2 : IntKind.i64.wrap (64 * (m : Int)) = ((64 * m : Nat) : Int) := by rw [IntKind.wrap_i64]; omega
  obtain ⟨V1, V2⟩ := V
  simp only at kn0 km0
  have KN := hide kn0
  have KM := hide km0
  clear kn0 km0
  clear hA hnd h hV hm hxv
  obtain ⟨N, hN⟩ : ∃ N, N = 64 * m := ⟨_, rfl⟩
  rw [← hN] at w2
  have kp0 := fun W => pnew_any W m hm1 hm2
  have kr0 := fun W => rnew_any W m hm1 hm2
  rw [← hN] at kp0 kr0
  have KP := hide kp0
  have KRN := hide kr0
  clear kp0 kr0
  have HN := hide hN
  clear hN
  generalize hln : zs.length = ln at *
  have arms : True := trivial
  by_cases hok : okL m x1 x2
  · have KO := hide (fun (W : World) (b : Nat) (L : Lay) (hd : DevL W b L (newD m)) => show Calls Try.prog 14 #[.pointer (some ⟨b, 0, none⟩), .int .i64 x1, .int .i64 x2] W fun e w' => e = .returned (.tuple #[.pointer (some ⟨W.heap.size, 0, none⟩), .int .i64 0]) ∧ Below W.heap.size W w' from (by
      obtain ⟨o1, o2, o3, o4, o5⟩ := hok
      obtain ⟨a1, rfl⟩ : ∃ a1 : Nat, x1 = (a1 : Int) := ⟨x1.toNat, by omega⟩
      obtain ⟨z1, rfl⟩ : ∃ z1 : Nat, x2 = (z1 : Int) := ⟨x2.toNat, by omega⟩
      exact (lopen_ok hd hm2 (by omega) (by omega) (by omega) (by omega) (by show a1 + z1 ≤ 64 * m; omega)).mono (fun e w' h => ⟨h.1, h.2.2⟩)))
    have M1 := hide trivial
    go_enter Try.func3, Try.ntmps3
    go_upto_region 1 with (fail)
    generalize w.alloc (.cells #[.int .i64 x0, .int .i64 x1, .int .i64 x2] 23) = X at *
    go_wp2_with (first
      | (go_at_call 7; refine (KS.out).mono ?_; rintro e W1 ⟨rfl, hir, hb⟩; replace HND := hide (HND.out.go hb); have HS1 := hide (SlZ.of (hir.sli (show zs.length ≤ ln + 9 by omega)) HBZ.out); have HIR := hide hir; clear hir hb)
      | (go_at_call 8; have kk := KN.out _ _ (ln + 9) HS1.out; refine kk.mono ?_; clear kk; rintro e w' ⟨rfl, hw⟩; obtain rfl := hw.symm)
      | (go_at_call 9; have kk := KM.out _ (KL.out _ HND.out.bel); refine kk.mono ?_; clear kk; rintro e w' ⟨rfl, hw⟩; obtain rfl := hw.symm)
      | (go_at_call 10; have kk := KK.out _ _ HIR.out (KL.out _ HND.out.bel).sli; refine kk.mono ?_; clear kk; rintro e W2 ⟨rfl, hb⟩; replace HND := hide (HND.out.go hb); have c0 := HND.out.c0; clear hb)
      | (go_at_call 11; refine (KW.out _).mono ?_; rintro e w' ⟨rfl, hw⟩; obtain rfl := hw.symm)
      | (go_at_call 12; refine (KP.out _).mono ?_; rintro e W3 ⟨b, L, rfl, hd, _, hb, _⟩; replace HND := hide (HND.out.go hb); have HD := hide hd; clear hb hd)
      | (go_at_call 13; refine (KRN.out _).mono ?_; rintro e W4 ⟨rb, rfl, hrb, hrc, hb⟩; replace HND := hide (HND.out.go hb); replace HD := hide (HD.out.below hb); have HRC := hide (And.intro hrb hrc); have c1 := HND.out.c1; have c2 := HND.out.c2; clear hb hrb hrc)
      | (go_at_call 14; clear M1; refine (KO.out _ _ _ HD.out).mono ?_; rintro e W5 ⟨rfl, hb⟩; replace HND := hide (HND.out.go hb); replace HD := hide (HD.out.below hb); replace HRC := hide (And.intro (Nat.lt_of_lt_of_le HRC.out.1 hb.size) ((hb.cell (p := ⟨rb, 0, none⟩) HRC.out.1).trans HRC.out.2)); have c3 := HND.out.c1; have c4 := HND.out.c2; clear hb)
      | (go_at_call 15; refine (ropen_any HRC.out.2 m HN.out.symm hm2 x1 x2 b1 b2).mono ?_; rintro e W6 ⟨⟨_, rfl⟩ | ⟨hx, _⟩, hb⟩; rotate_left; (exact absurd hok hx); replace HND := hide (HND.out.go hb); replace HD := hide (HD.out.below hb); have c5 := HND.out.c1; have c6 := HND.out.c2; clear hb)
      | (go_at_call 14; refine (nv_open (.inl rfl) x1 x2).mono ?_; rintro e w' ⟨rfl, hw⟩; obtain rfl := hw.symm)
      | (go_at_call 16; refine (pops_any HD.out).mono ?_; rintro e w' ⟨rfl, hw⟩; obtain rfl := hw.symm)
      | (go_at_call 17; refine (uawake_any _).mono ?_; rintro e W7 ⟨rfl, hb⟩; replace HND := hide (HND.out.go hb); clear hb))
    go_ret
    exact ⟨rfl, HND.out.bel⟩
  · have KO := hide (fun (W : World) (b : Nat) (L : Lay) (hd : DevL W b L (newD m)) => lopen_no hd hm2 hm1 x1 x2 b1 b2 hok)
    have M1 := hide trivial
    go_enter Try.func3, Try.ntmps3
    go_upto_region 1 with (fail)
    generalize w.alloc (.cells #[.int .i64 x0, .int .i64 x1, .int .i64 x2] 23) = X at *
    go_wp2_with (first
      | (go_at_call 7; refine (KS.out).mono ?_; rintro e W1 ⟨rfl, hir, hb⟩; replace HND := hide (HND.out.go hb); have HS1 := hide (SlZ.of (hir.sli (show zs.length ≤ ln + 9 by omega)) HBZ.out); have HIR := hide hir; clear hir hb)
      | (go_at_call 8; have kk := KN.out _ _ (ln + 9) HS1.out; refine kk.mono ?_; clear kk; rintro e w' ⟨rfl, hw⟩; obtain rfl := hw.symm)
      | (go_at_call 9; have kk := KM.out _ (KL.out _ HND.out.bel); refine kk.mono ?_; clear kk; rintro e w' ⟨rfl, hw⟩; obtain rfl := hw.symm)
      | (go_at_call 10; have kk := KK.out _ _ HIR.out (KL.out _ HND.out.bel).sli; refine kk.mono ?_; clear kk; rintro e W2 ⟨rfl, hb⟩; replace HND := hide (HND.out.go hb); have c0 := HND.out.c0; clear hb)
      | (go_at_call 11; refine (KW.out _).mono ?_; rintro e w' ⟨rfl, hw⟩; obtain rfl := hw.symm)
      | (go_at_call 12; refine (KP.out _).mono ?_; rintro e W3 ⟨b, L, rfl, hd, _, hb, _⟩; replace HND := hide (HND.out.go hb); have HD := hide hd; clear hb hd)
      | (go_at_call 13; refine (KRN.out _).mono ?_; rintro e W4 ⟨rb, rfl, hrb, hrc, hb⟩; replace HND := hide (HND.out.go hb); replace HD := hide (HD.out.below hb); have HRC := hide (And.intro hrb hrc); have c1 := HND.out.c1; have c2 := HND.out.c2; clear hb hrb hrc)
      | (go_at_call 14; clear M1; refine (KO.out _ _ _ HD.out).mono ?_; rintro e w' ⟨rfl, hw⟩; obtain rfl := hw.symm)
      | (go_at_call 15; refine (ropen_any HRC.out.2 m HN.out.symm hm2 x1 x2 b1 b2).mono ?_; rintro e W6 ⟨⟨hx, _⟩ | ⟨_, rfl⟩, hb⟩; (exact absurd hx hok); replace HND := hide (HND.out.go hb); replace HD := hide (HD.out.below hb); have c5 := HND.out.c1; have c6 := HND.out.c2; clear hb)
      | (go_at_call 14; refine (nv_open (.inl rfl) x1 x2).mono ?_; rintro e w' ⟨rfl, hw⟩; obtain rfl := hw.symm)
      | (go_at_call 16; refine (pops_any HD.out).mono ?_; rintro e w' ⟨rfl, hw⟩; obtain rfl := hw.symm)
      | (go_at_call 17; refine (uawake_any _).mono ?_; rintro e W7 ⟨rfl, hb⟩; replace HND := hide (HND.out.go hb); clear hb))
    go_ret
    exact ⟨rfl, HND.out.bel⟩
end Go.Proofs.Ytmcbkflfopfolaa
namespace Go.Proofs.Ytmcbkflfopfolaa
open Go.ChangeShapes Go.WideShapes Go.ChangeAt Go.RowKit
set_option linter.unusedVariables false

theorem own : ownKnob Try.prog.godebug = none := by kernel_rfl
theorem laidOut : laidOutB Try.prog = true := by kernel_rfl
theorem size_of_sized {s : ByteArray} (h : s.data.toList.length ≤ reachBytes) : s.size ≤ 140737488351232 := by
  have : s.data.toList.length = s.size := by simp
  have e : reachBytes = 140737488351232 := by decide
  omega
theorem bulk_pos {H : Type} (d : DataW H) : 1 ≤ Rows.uptoBulk d := by
  cases d with
  | lit l => cases l <;> simp [Rows.uptoBulk]
  | _ => simp [Rows.uptoBulk]
theorem bulk_len {H : Type} (l : List (DataW H)) : l.length ≤ Rows.uptoBulkAll l := by
  induction l with
  | nil => simp [Rows.uptoBulkAll]
  | cons d r ih =>
    have := bulk_pos d
    simp only [Rows.uptoBulkAll, List.length_cons]
    omega
theorem bulk_string {H : Type} (s : ByteArray) : s.size ≤ Rows.uptoBulk (H := H) (.lit (.string s.data.toList)) := by
  simp [Rows.uptoBulk]
theorem bulk_nums {H : Type} {d : DataW H} {zs : List Int} (h : d = .nil ∧ zs = [] ∨ ∃ el sp, d = .slice el sp ∧ el.length = zs.length) : zs.length ≤ Rows.uptoBulk d := by
  rcases h with ⟨_, rfl⟩ | ⟨el, sp, rfl, h⟩
  · simp
  · have := bulk_len el
    simp only [Rows.uptoBulk]
    omega
theorem bulk_of {H : Type} {l : List (DataW H)} (h : Rows.uptoSmall H l = true) : Rows.uptoBulkAll l ≤ 1048576 := of_decide_eq_true h

theorem Try.bytes32 : Try.prog.bytesOf 21 = 4 := by kernel_rfl
end Go.Proofs.Ytmcbkflfopfolaa
namespace Go.Proofs.Ytmcbkflfopfolaa
open Go.ChangeShapes Go.WideShapes Go.ChangeAt Go.RowKit
set_option linter.unusedVariables false
set_option maxRecDepth 100000
theorem open_keepB {H : Type} {enc : TypeId × Value → H} {W : World} {v : Value} {d : DataW H} {p : List MemPlace} (h : DataW.Trod enc Try.prog W 0 (fun _ => true) true 22 v d p) (hv : ∃ a l c, v = .slice a l c) :
    ∃ (a : Option Addr) (nk c : Nat) (zs : List Int), v = .slice a nk c ∧ SlZ W a zs ∧ zs.length = nk ∧ nk ≤ c ∧ nk ≤ Rows.uptoBulk d := by
  obtain ⟨a, l, c, rfl⟩ := hv
  obtain ⟨fuel, hf⟩ := h
  have hf : DataW.trod enc Try.prog W 0 (fun _ => true) true fuel 22 [.slice a l c] = some (d, p) := by simpa [Value.cells] using hf
  rcases open_ints Try.underlying22 Try.underlying3 (by kernel_rfl) hf with ⟨hcs, hx0⟩ | ⟨ad, l', cap, zs, hcs, _, hl, hm, hzl, hx, hcell, hwz⟩
  · simp at hcs
    obtain ⟨rfl, rfl, rfl⟩ := hcs
    exact ⟨none, 0, 0, [], rfl, ⟨by simp, .inl rfl⟩, rfl, Nat.le_refl _, Nat.zero_le _⟩
  · simp at hcs
    obtain ⟨rfl, rfl, rfl⟩ := hcs
    simp only [if_true] at hzl
    have htl : (zs.take l).length = l := by rw [List.length_take]; omega
    refine ⟨some ad, l, c, zs.take l, rfl, ⟨fun z hz => bounds_i64 (hwz z (List.mem_of_mem_take hz)), ?_⟩, htl, hl, ?_⟩
    · by_cases h0 : l = 0
      · subst h0; exact .inl (by simp)
      · obtain ⟨b, off, spot⟩ := ad
        have hc := hcell 0 (by omega)
        have hspot : spot = none := by simpa [Addr.add] using World.cell?_spot hc
        subst hspot
        refine .inr ⟨b, off, rfl, World.block_lt_of_cell? _ _ hc, fun i y hy => ?_⟩
        have hi : i < l := by
          have := (List.getElem?_eq_some_iff.1 hy).1
          omega
        rw [List.getElem?_take, if_pos hi] at hy
        have h1 := hcell i (by omega)
        have e : (⟨b, off, none⟩ : Addr).add i = ⟨b, off + i, none⟩ := by simp [Addr.add]
        rw [e] at h1
        rw [h1, List.getD_eq_getElem?_getD, hy]
        rfl
    · simp only [Prod.mk.injEq] at hx
      rw [hx.1]
      have h5 := bulk_len (H := H) (lits .i64 (zs.take l))
      have h6 : (lits (H := H) .i64 (zs.take l)).length = l := by simp [lits]; omega
      simp only [Rows.uptoBulk]
      omega
theorem trod_len {H : Type} {enc : TypeId × Value → H} {W : World} {t e : TypeId} {a : Option Addr} {l c : Nat} {d : DataW H} {p : List MemPlace} (ht : Try.prog.underlying t = some (.slice e)) (h : DataW.Trod enc Try.prog W 0 (fun _ => true) true t (.slice a l c) d p)
    (hz : ∀ el sp, d = .slice el sp → (el.length + sp.length) * Try.prog.bytesOf e ≤ reachBytes) : l * Try.prog.bytesOf e ≤ reachBytes := by
  obtain ⟨fuel, hf⟩ := h
  have hf : DataW.trod enc Try.prog W 0 (fun _ => true) true fuel t [.slice a l c] = some (d, p) := by simpa [Value.cells] using hf
  rcases Go.Deep.open_slice ht hf with ⟨hcs, hx0⟩ | ⟨ad, l', c', m, n, D, Pl, hcs, _, hl, hm, hmm, hx, hele⟩
  · simp at hcs
    obtain ⟨rfl, rfl, rfl⟩ := hcs
    simp
  · simp at hcs
    obtain ⟨rfl, rfl, rfl⟩ := hcs
    simp only [Prod.mk.injEq] at hx
    have h5 := hz _ _ hx.1
    simp only [List.length_map, List.length_range] at h5
    exact Nat.le_trans (Nat.mul_le_mul_right _ (Nat.le_add_right _ _)) h5
theorem len_nums {l : Nat} (h : l * Try.prog.bytesOf 3 ≤ reachBytes) : l ≤ 17592186043904 := by
  have e : Try.prog.bytesOf 3 = 8 := by kernel_rfl
  have e2 : reachBytes = 140737488351232 := by decide
  rw [e, e2] at h; omega
theorem open_keepV {H : Type} {enc : TypeId × Value → H} {W : World} {v : Value} {d : DataW H} {p : List MemPlace} (h : DataW.Trod enc Try.prog W 0 (fun _ => true) true 22 v d p) (hv : ∃ a l c, v = .slice a l c) :
    ∃ (a : Option Addr) (nk c : Nat) (zs : List Int), v = .slice a nk c ∧ SlZ W a zs ∧ zs.length = nk ∧ nk ≤ c ∧ (a = none → zs = [] ∧ c = 0) := by
  obtain ⟨a, l, c, rfl⟩ := hv
  obtain ⟨fuel, hf⟩ := h
  have hf : DataW.trod enc Try.prog W 0 (fun _ => true) true fuel 22 [.slice a l c] = some (d, p) := by simpa [Value.cells] using hf
  rcases open_ints Try.underlying22 Try.underlying3 (by kernel_rfl) hf with ⟨hcs, hx0⟩ | ⟨ad, l', cap, zs, hcs, _, hl, hm, hzl, hx, hcell, hwz⟩
  · simp at hcs
    obtain ⟨rfl, rfl, rfl⟩ := hcs
    exact ⟨none, 0, 0, [], rfl, ⟨by simp, .inl rfl⟩, rfl, Nat.le_refl _, fun _ => ⟨rfl, rfl⟩⟩
  · simp at hcs
    obtain ⟨rfl, rfl, rfl⟩ := hcs
    simp only [if_true] at hzl
    have htl : (zs.take l).length = l := by rw [List.length_take]; omega
    refine ⟨some ad, l, c, zs.take l, rfl, ⟨fun z hz => bounds_i64 (hwz z (List.mem_of_mem_take hz)), ?_⟩, htl, hl, ?_⟩
    · by_cases h0 : l = 0
      · subst h0; exact .inl (by simp)
      · obtain ⟨b, off, spot⟩ := ad
        have hc := hcell 0 (by omega)
        have hspot : spot = none := by simpa [Addr.add] using World.cell?_spot hc
        subst hspot
        refine .inr ⟨b, off, rfl, World.block_lt_of_cell? _ _ hc, fun i y hy => ?_⟩
        have hi : i < l := by
          have := (List.getElem?_eq_some_iff.1 hy).1
          omega
        rw [List.getElem?_take, if_pos hi] at hy
        have h1 := hcell i (by omega)
        have e : (⟨b, off, none⟩ : Addr).add i = ⟨b, off + i, none⟩ := by simp [Addr.add]
        rw [e] at h1
        rw [h1, List.getD_eq_getElem?_getD, hy]
        rfl
    · intro h; cases h
theorem list3 {l : List Value} (h : l.length = 3) : ∃ a b c, l = [a, b, c] := by
  match l, h with
  | [a, b, c], _ => exact ⟨a, b, c, rfl⟩
theorem open_three {H : Type} {enc : TypeId × Value → H} {W : World} {r : Reach} {b0 base : Nat} {sp : Bool} {held : Nat → Bool} {v : Value} {d : DataW H} {p : List MemPlace}
    (hv : Value.okWide Try.prog W r b0 23 v) (h : DataW.Trod enc Try.prog W base held sp 23 v d p) :
    ∃ (a b c : Int), v = .agg #[.int .i64 a, .int .i64 b, .int .i64 c] ∧ (-9223372036854775808 ≤ a ∧ a ≤ 9223372036854775807) ∧ (-9223372036854775808 ≤ b ∧ b ≤ 9223372036854775807) ∧ (-9223372036854775808 ≤ c ∧ c ≤ 9223372036854775807) := by
  have hu : Try.prog.underlying 23 = some (.array 3 3) := by kernel_rfl
  have hc : Try.prog.cellsOf 23 = 3 := by kernel_rfl
  obtain ⟨cs, rfl, hsz, _⟩ : ∃ cs, v = .agg cs ∧ cs.size = Try.prog.cellsOf 23 ∧ Row.okWide Try.prog W r b0 23 cs := by
    simp only [Value.okWide, hu] at hv
    exact hv
  rw [hc] at hsz
  obtain ⟨l⟩ := cs
  obtain ⟨c0, c1, c2, rfl⟩ := list3 (l := l) hsz
  obtain ⟨fuel, hf⟩ := h
  have hf : DataW.trod enc Try.prog W base held sp fuel 23 [c0, c1, c2] = some (d, p) := by simpa [Value.cells] using hf
  obtain ⟨y0, y1, y2, m, _, hy0, hy1, hy2⟩ := trod_array3 hu (by kernel_rfl) hf
  obtain ⟨x0, e0, _, w0⟩ := DataW.trod_int Try.underlying3 hy0
  obtain ⟨x1, e1, _, w1⟩ := DataW.trod_int Try.underlying3 hy1
  obtain ⟨x2, e2, _, w2⟩ := DataW.trod_int Try.underlying3 hy2
  simp at e0 e1 e2
  subst e0 e1 e2
  exact ⟨x0, x1, x2, rfl, bounds_i64 w0, bounds_i64 w1, bounds_i64 w2⟩
end Go.Proofs.Ytmcbkflfopfolaa
namespace Go.Proofs.Ytmcbkflfopfolaa.ulogNeeds
open Go.ChangeShapes Go.WideShapes Go.ChangeAt Go.RowKit Go.Proofs.Ytmcbkflfopfolaa
set_option linter.unusedVariables false

set_option maxRecDepth 100000 in
theorem lifted (os : Os) (started : os.Started) (H : Type) (enc : TypeId × Value → H) :
    ReturnsInHanded {} Try.checked os 3 .any (Rows.ulogNeedsSpec.pre6 enc Try.prog Try.f3 Rows.ulogNeedsRow.domain false) (Rows.ulogNeedsSpec.post enc Try.prog Try.f3 false true false false) := by
  refine returnsInHanded_of_change_sized (C := Try.checked) own started (by kernel_rfl) Try.func3
    (ChangeSpec.witness6 (enc := enc) (C := Try.checked) false ⟨#[], #[.slice none 0 0, .agg #[.int .i64 0, .int .i64 0, .int .i64 0]], []⟩ 8 (by kernel_rfl) (by kernel_rfl) (by kernel_rfl) (by kernel_rfl)) ?_
  intro W base args ds gs before hval0 hW hcnd hsz0 _
  have hval : ∀ (j : Nat) t v, Try.f3.params[j]? = some t → args[j]? = some v → Value.okWide Try.prog W .any base t v := hval0
  have hsz : (DataW.weightsEach Try.prog (Try.f3.params.toList ++ Rows.ulogNeedsSpec.plain.varTypes Try.prog) (ds ++ gs)).all (· ≤ reachBytes) = true := hsz0
  have hW' := hW
  obtain ⟨p, q, hA0, hV, rfl, hfz, hnd⟩ := hW
  have hA : DataW.TrodAll enc Try.prog W 0 (fun _ => true) true Try.f3.params.toList args.toList ds p := hA0
  rw [Try.params3] at hA hval hsz
  obtain ⟨v0, vs0, d0, ds0, p0, q0, hargs, rfl, rfl, h0, r0⟩ := trodAll_cons hA
  obtain ⟨v1, vs1, d1, ds1, p1, q1, rfl, rfl, rfl, h1, r1⟩ := trodAll_cons r0
  obtain ⟨rfl, rfl, rfl⟩ := trodAll_nil r1
  obtain rfl : args = #[v0, v1] := by cases args; simp_all
  obtain ⟨rfl, rfl⟩ := trodVars_none hV
  have k0 := h0
  have lt0 : ∀ x ∈ p0, x.block < W.heap.size := by obtain ⟨m, hm⟩ := k0; exact DataW.trod_lt m _ _ _ hm
  obtain ⟨ka0, nk0, kc0, zs0, rfl, hz0, zl0, zc0, zb0⟩ := open_keepV h0 (by obtain ⟨a, l, c, e⟩ := okWide_slice Try.underlying22 (hval 0 22 v0 rfl rfl); exact ⟨a, l, c, e⟩)
  have z0 := len_nums (trod_len Try.underlying22 k0 (fun el sp hd => by subst hd; exact sized_slice hsz (j := 0) (t := 22) (e := 3) rfl rfl Try.underlying22))
  subst zl0
  have k1 := h1
  have lt1 : ∀ x ∈ p1, x.block < W.heap.size := by obtain ⟨m, hm⟩ := k1; exact DataW.trod_lt m _ _ _ hm
  obtain ⟨x1, y1, z1, rfl, bx1, by1, bz1⟩ := open_three (hval 1 23 v1 rfl rfl) h1
  clear hval0
  clear hA0
  refine (ulogNeeds_walk W ka0 kc0 zs0 hz0 (by omega) x1 y1 z1 bx1 by1 bz1).mono fun e W' ⟨he, bel⟩ => ?_
  subst he
  exact ⟨_, rfl, _, _, _, [], _, [], hW', trodAll_mk1 (shut_bool Try.underlying4 _), (trodAll_cons_mk (Below.trod laidOut (by kernel_rfl) (of_decide_eq_true (by kernel_rfl)) k0 bel lt0) (trodAll_cons_mk (Below.trod laidOut (by kernel_rfl) (of_decide_eq_true (by kernel_rfl)) k1 bel lt1) trodAll_mk0)), rfl, bel.frame _, fun h => by cases h⟩

theorem over : Rows.ulogNeedsRow.holds Try.pinned (OpenSpec.ofChange Rows.ulogNeedsSpec) :=
  OpenClaim.holds_of_wide 3 Try.f3 rfl rfl rfl rfl rfl rfl rfl ⟨rfl, rfl, rfl, rfl, rfl⟩ rfl rfl rfl rfl rfl (by kernel_rfl) Try.func3 (by kernel_rfl)
    (of_decide_eq_true (by kernel_rfl)) (by unfold Func.isWrapper; first | (rw [if_pos (by decide +kernel)]; kernel_rfl) | (rw [if_neg (by decide +kernel)]; exact ⟨rfl, rfl⟩))
    (fun os started H enc _ => lifted os started H enc)

end Go.Proofs.Ytmcbkflfopfolaa.ulogNeeds

namespace Go.Proofs.Ytmcbkflfopfolaa
/-- UlogNeeds, as it is stated. -/
theorem ulogNeeds_holds : Rows.UlogNeedsSaid := ulogNeeds.over
#print axioms ulogNeeds_holds
end Go.Proofs.Ytmcbkflfopfolaa
