/- What utf.Runes answers, of every text of bounded size: the runes, in memory of its own; and what sameRunes answers. -/
import Derived.Test.YtfiocfhehofheaaUAwake
import Derived.Deep.QuietTactic
import Derived.BigQuiet
import Derived.OwnWalk
import Derived.WalkSmall
import Derived.Lib.OthersKept
namespace Go.Proofs.Ytfiocfhehofheaa
open Go.RowKit
set_option linter.unusedVariables false

/-- The runes of a text, as numbers. -/
def runesZ (l : List UInt8) : List Int := (Cs 0 l).map (fun e => (e.2.1 : Int))
theorem runesZ_len (l : List UInt8) : (runesZ l).length = (Cs 0 l).length := by unfold runesZ; simp
def R32 (z : Int) : Value := .int .i32 z
theorem Try.info32 : (Try.prog.info? 21).map (fun i => (i.zero, i.size, i.bytes)) = some (some (.int .i32 0), 1, 4) := by kernel_rfl

/-- What a row of runes of the call's own holds. -/
theorem slu_of_owns {W : World} {base : Nat} {v : Value} {zs : List Int} (h : W.ownsRow base 21 1 v zs.length (zs.map R32)) : ∃ a cap, v = .slice a zs.length cap ∧ SlU W a zs := by
  rcases h.2 with ⟨rfl, h0⟩ | ⟨g, cap, cur, rfl, _, hg, hn, _, hs, hc⟩
  · exact ⟨none, 0, by rw [h0], .inl (List.eq_nil_of_length_eq_zero h0)⟩
  · refine ⟨_, cap, rfl, .inr ⟨g, 0, rfl, (Array.getElem?_eq_some_iff.1 hg).1, fun i x hx => ?_⟩⟩
    have h1 : (zs.map R32)[i]? = some (.int .i32 x) := by rw [List.getElem?_map, hx]; rfl
    have h2 : i < zs.length := (List.getElem?_eq_some_iff.1 hx).1
    rw [← hc, List.getElem?_take, if_pos (by omega)] at h1
    simp only [Nat.zero_add, World.cell?, hg]
    simpa using h1
theorem ownsRow_below {W W' : World} {base : Nat} {e : TypeId} {size : Nat} {v : Value} {k : Nat} {xs : List Value} (h : W.ownsRow base e size v k xs) (hb : Below W.heap.size W W') : W'.ownsRow base e size v k xs := by
  refine ⟨h.1, ?_⟩
  rcases h.2 with h2 | ⟨g, cap, cur, hv, hg, hh, r⟩
  · exact .inl h2
  · exact .inr ⟨g, cap, cur, hv, hg, (hb.block g (Array.getElem?_eq_some_iff.1 hh).1).trans hh, r⟩
theorem ownsRow_iter {w : World} {base : Nat} {e : TypeId} {size : Nat} {v : Value} {n : Nat} {xs : List Value} (h : w.ownsRow base e size v n xs) {k : Nat} {s : ByteArray} {p : Nat} (hk : w.heap[k]? = some (.stringIter s p)) (p' : Nat) : (w.iterAt k s p').ownsRow base e size v n xs := by
  obtain ⟨h1, h2⟩ := h
  refine ⟨h1, ?_⟩
  rcases h2 with h2 | ⟨g, cap, cur, a, b, c, d⟩
  · exact .inl h2
  · refine .inr ⟨g, cap, cur, a, b, ?_, d⟩
    rw [Lib.iterAt_other]
    · exact c
    · intro e
      rw [e, hk] at c
      cases c

theorem next_at' {P : Program} (w : World) (k : Nat) (s : ByteArray) (pos : Nat) (ty : TypeId) (hk : w.heap[k]? = some (.stringIter s pos)) (h : pos < s.size) :
    (Instr.next (.pointer (some ⟨k, 0, none⟩)) true ty).run P w = .ok (.tuple #[.bool true, .int .i64 pos, .int .i32 (rune ((bl s).drop pos) : Nat)]) (w.iterAt k s (pos + cw ((bl s).drop pos))) := by
  rw [Lib.run_next_any_at w k s pos ty hk h, decode_eq s pos h]; rfl

set_option maxHeartbeats 1000000 in
theorem runes_any (s : ByteArray) (w : World) (hs : s.size ≤ 35184372088832) :
    Calls Try.prog 17 #[.string s] w fun e w' => ∃ g, e = .returned (.slice (some ⟨g, 0, none⟩) (Cs 0 (bl s)).length (Cs 0 (bl s)).length) ∧
      w'.ownsRow w.heap.size 21 1 (.slice (some ⟨g, 0, none⟩) (Cs 0 (bl s)).length (Cs 0 (bl s)).length) (Cs 0 (bl s)).length ((runesZ (bl s)).map R32) ∧ Below w.heap.size w w' := by
  obtain ⟨i0, hi, hz0, hz1, hz2⟩ := info_parts Try.info32
  have kc := fun w => count_any s w (by omega)
  have hcl := Cs_len_le (bl s)
  rw [bl_len] at hcl
  generalize hn : (Cs 0 (bl s)).length = n at *
  have hmk : ∀ w, Sem.run Try.prog (Instr.makeSlice 32 (.int .i64 0) (.int .i64 (n : Int))) w = .ok (.slice (some ⟨w.heap.size, 0, none⟩) 0 n) (w.alloc (.cells (madeCells #[.int .i32 0] n) 21)) := fun w => by
    have h := run_make (P := Try.prog) w 32 21 i0 (.int .i32 0) Try.underlying32 hi hz0 .i64 .i64 0 n (by omega) (by omega) (by rw [hz2]; omega) (by omega)
    simp only [Int.toNat_zero, Int.toNat_natCast, hz1, Nat.mul_one] at h
    exact h
  have KC := hide kc
  have HN := hide hn
  clear kc hn
  go_enter Try.func17, Try.ntmps17
  go_wp2_with (go_at_call 15; refine (KC.out _).mono ?_; rintro e w1 ⟨rfl, hB1⟩)
  clear hmk
  have hB2 : Below w.heap.size w ((w1.alloc (.cells (madeCells #[.int .i32 0] n) 21)).iter s 0) := bseq hB1 (((Below.refl _ w1).alloc (Nat.le_refl _) _).alloc (by simp) _)
  have hO : ((w1.alloc (.cells (madeCells #[.int .i32 0] n) 21)).iter s 0).ownsRow w.heap.size 21 1 (.slice (some ⟨w1.heap.size, 0, none⟩) 0 n) 0 [] :=
    (World.ownsRow_made w1 _ n hB1.size (by unfold maxLen; omega) (by simp [size_madeCells])).alloc _
  have hit : ((w1.alloc (.cells (madeCells #[.int .i32 0] n) 21)).iter s 0).heap[w1.heap.size + 1]? = some (.stringIter s 0) := by
    have := World.iter_heap (w1.alloc (.cells (madeCells #[.int .i32 0] n) 21)) s 0
    rwa [World.size_alloc] at this
  have hG : w.heap.size ≤ w1.heap.size := hB1.size
  generalize ((w1.alloc (.cells (madeCells #[.int .i32 0] n) 21)).iter s 0) = w2 at *
  generalize w1.heap.size = G at *
  have HB2 := hide hB2
  have HO := hide hO
  have HIT := hide hit
  clear hB2 hO hit hB1
  go_loopw [3] (fun v wr => ∃ pos k : Nat, v = .slice (some ⟨G, 0, none⟩) k n ∧ k ≤ pos ∧ pos ≤ s.size ∧ Inv (bl s) pos k ∧ wr.ownsRow w.heap.size 21 1 (.slice (some ⟨G, 0, none⟩) k n) k (((runesZ (bl s)).take k).map R32) ∧
      wr.heap[G + 1]? = some (.stringIter s pos) ∧ Below w.heap.size w wr) (fun _ wr => s.size - wr.iterPos (G + 1))
  case atStart => exact ⟨0, 0, rfl, by omega, by omega, Inv.start _, HO.out, HIT.out, HB2.out⟩
  case round =>
    clear HB2 HO HIT
    obtain ⟨pos, k, rfl, hkp, hps, hI, hown, hit, hB⟩ := hrel
    have HIT := hide hit
    by_cases hlt : pos < s.size
    · have hnx : ∀ ty, (Instr.next (.pointer (some ⟨G + 1, 0, none⟩)) true ty).run Try.prog wr = _ := fun ty => next_at' wr (G + 1) s pos ty hit hlt
      have hh := hI.here (by rw [bl_len]; exact hlt)
      have hst := hI.step (by rw [bl_len]; exact hlt)
      have hkn : k < n := by have := (List.getElem?_eq_some_iff.1 hh).1; rw [HN.out] at this; exact this
      have h1 := cw_pos ((bl s).drop pos)
      have h2 := cw_len _ (bl_drop_ne hlt)
      rw [List.length_drop, bl_len] at h2
      have hrz : (runesZ (bl s))[k]? = some ((rune ((bl s).drop pos) : Nat) : Int) := by unfold runesZ; rw [List.getElem?_map, hh]; rfl
      have hsz := (Array.getElem?_eq_some_iff.1 hit).1
      generalize hr : rune ((bl s).drop pos) = r at *
      generalize hc : cw ((bl s).drop pos) = c at *
      have hown2 := ownsRow_iter hown hit (pos + c)
      have hit2 := Lib.iterAt_heap wr (G + 1) s pos (pos + c) hit
      have hB2 := Lib.below_iterAt hB (k := G + 1) (by omega) s (pos + c)
      have hsz2 : (wr.iterAt (G + 1) s (pos + c)).heap.size = wr.heap.size := Lib.iterAt_size _ _ _ _
      generalize hW : wr.iterAt (G + 1) s (pos + c) = W2 at *
      have HRZ := hide hrz
      have HST := hide hst
      have HB := hide hB2
      have HT2 := hide hit2
      have HS2 := hide hsz2
      clear hrz hst hB2 hit2 hh hB hown hit hI hr hc hW hsz2
      go_wp2_with (at_builtin; refine wpList_append_fits _ rfl _ _ 32 rfl w.heap.size 21 i0 1 Try.underlying32 hi hz1 G k n _ rfl (hown2.alloc _) ⟨W2.heap.size, 0, none⟩ 1 1 [.int .i32 (r : Int)] rfl rfl (cell_one_new _ _ _) (by simp [Value.oneCell']) (by omega) ?_; intro w3 hown3 hgrow3)
      go_roundw
      case rel =>
        refine ⟨pos + c, k + 1, rfl, by omega, by omega, HST.out, ?_, ?_, ?_⟩
        · rw [List.take_add_one, HRZ.out]
          simpa [R32] using hown3
        · rw [hgrow3.block (G + 1) (by have := HS2.out; simp; omega) (by simp), Below.heap_alloc _ _ _ (by have := HS2.out; omega)]
          exact HT2.out
        · exact (HB.out.alloc HB.out.size _).grown hgrow3 (by have := HS2.out; simp; omega) (fun j e => by cases e; exact hG)
      case measure =>
        have e1 : w3.iterPos (G + 1) = pos + c := iterPos_of (by
          rw [hgrow3.block (G + 1) (by have := HS2.out; simp; omega) (by simp), Below.heap_alloc _ _ _ (by have := HS2.out; omega)]
          exact HT2.out)
        have e2 : wr.iterPos (G + 1) = pos := iterPos_of HIT.out
        rw [e1, e2]
        omega
    · have hnx : ∀ ty, (Instr.next (.pointer (some ⟨G + 1, 0, none⟩)) true ty).run Try.prog wr = _ := fun ty => Lib.run_next_end_at wr (G + 1) s pos ty hit hlt
      have hk := hI.fin (by rw [bl_len]; omega)
      rw [HN.out] at hk
      subst hk
      have HO := hide hown
      have HB := hide hB
      clear hown hB hI hit
      go_wp2
      go_ret
      have h1 := HO.out
      rw [List.take_of_length_le (by rw [runesZ_len, HN.out]; exact Nat.le_refl _)] at h1
      exact ⟨G, rfl, h1, HB.out⟩

theorem same_len (a b : Option Addr) (n m c d : Nat) (w : World) (h : ((n : Int) != (m : Int)) = true) :
    Calls Try.prog 16 #[.slice a n c, .slice b m d] w fun e w' => e = .returned (.bool false) ∧ w' = w := by
  go_enter Try.func16, Try.ntmps16
  go_wp2
  go_ret
  exact ⟨rfl, rfl⟩

set_option maxHeartbeats 400000 in
theorem same_same (a b : Option Addr) (c d : Nat) (xs ys : List Int) (w : World) (ha : SlU w a xs) (hb : SlU w b ys) (hl : xs.length = ys.length) (hm : xs.length ≤ 9223372036854775807) :
    Calls Try.prog 16 #[.slice a xs.length c, .slice b xs.length d] w fun e w' => e = .returned (.bool (decide (xs = ys))) ∧ ∃ n, w' = w.drewN n := by
  have HL := hide hl
  clear hl
  have hne : ((xs.length : Int) != (xs.length : Int)) = false := by simp
  go_enter Try.func16, Try.ntmps16
  go_wp2
  go_loopw [5] (fun i wr => ∃ k n : Nat, k ≤ xs.length ∧ i = .int .i64 k ∧ xs.take k = ys.take k ∧ wr = w.drewN n) (fun i _ => xs.length - (intOf i).toNat)
  case atStart => exact ⟨0, 0, by omega, rfl, rfl, rfl⟩
  case round =>
    obtain ⟨k, n, hk, rfl, htk, rfl⟩ := hrel
    have HT := hide htk
    clear htk
    by_cases hlt : k < xs.length
    · obtain ⟨x, hx⟩ : ∃ x, xs[k]? = some x := ⟨_, List.getElem?_eq_getElem hlt⟩
      obtain ⟨y, hy⟩ : ∃ y, ys[k]? = some y := ⟨_, List.getElem?_eq_getElem (by have := HL.out; omega)⟩
      obtain ⟨b1, o1, rfl, _, hs1⟩ : ∃ b off, a = some ⟨b, off, none⟩ ∧ b < w.heap.size ∧ ∀ (i : Nat) (x : Int), xs[i]? = some x → w.cell? ⟨b, off + i, none⟩ = some (.int .i32 x) := by
        rcases ha with rfl | h
        · simp at hlt
        · exact h
      obtain ⟨b2, o2, rfl, _, hs2⟩ : ∃ b0 off, b = some ⟨b0, off, none⟩ ∧ b0 < w.heap.size ∧ ∀ (i : Nat) (x : Int), ys[i]? = some x → w.cell? ⟨b0, off + i, none⟩ = some (.int .i32 x) := by
        rcases hb with rfl | h
        · simp at hy
        · exact h
      have c1 := hs1 k x hx
      have c2 := hs2 k y hy
      have HX := hide hx
      have HY := hide hy
      clear hx hy hs1 hs2 ha hb
      have hki : (k : Int) < (xs.length : Int) := by omega
      by_cases hxy : x = y
      · have hb1 : (x != y) = false := by simp [hxy]
        have HXY := hide hxy
        clear hxy
        go_wp2
        go_quiet (fail)
        go_wp2
        go_roundw
        case rel =>
          refine ⟨k + 1, n + nq, by omega, by go_num, ?_, rfl⟩
          rw [List.take_add_one, List.take_add_one, HX.out, HY.out, HT.out, HXY.out]
        case measure => simp [intOf]; omega
      · have hb1 : (x != y) = true := by simp [hxy]
        have HXY := hide hxy
        clear hxy
        go_wp2
        go_quiet (fail)
        go_wp2
        go_ret
        refine ⟨ret_bool (Eq.symm (decide_eq_false fun h => HXY.out ?_)), n + nq, by simp⟩
        have h1 := HX.out
        rw [h, HY.out] at h1
        exact (Option.some.inj h1).symm
    · have hkk : k = xs.length := by omega
      subst hkk
      go_wp2
      go_ret
      refine ⟨ret_bool (Eq.symm (decide_eq_true ?_)), _, rfl⟩
      have h1 := HT.out
      rw [List.take_length, HL.out, List.take_length] at h1
      exact h1

theorem same_any (a b : Option Addr) (c d : Nat) (xs ys : List Int) (w : World) (ha : SlU w a xs) (hb : SlU w b ys) (hm : xs.length ≤ 9223372036854775807) :
    Calls Try.prog 16 #[.slice a xs.length c, .slice b ys.length d] w fun e w' => e = .returned (.bool (decide (xs = ys))) ∧ ∃ n, w' = w.drewN n := by
  by_cases hl : xs.length = ys.length
  · have h := same_same a b c d xs ys w ha hb hl hm
    rw [← hl]
    exact h
  · refine (same_len a b xs.length ys.length c d w (by simp; omega)).mono ?_
    rintro e w' ⟨rfl, rfl⟩
    exact ⟨ret_bool (Eq.symm (decide_eq_false fun h => hl (by rw [h]))), 0, rfl⟩
/-- Of two that are one it answers yes. -/
theorem same_yes (a b : Option Addr) (c d : Nat) (xs : List Int) (n : Nat) (hn : xs.length = n) (w : World) (ha : SlU w a xs) (hb : SlU w b xs) (hm : n ≤ 9223372036854775807) :
    Calls Try.prog 16 #[.slice a n c, .slice b n d] w fun e w' => e = .returned (.bool true) ∧ Below w.heap.size w w' := by
  subst hn
  have h := same_any a b c d xs xs w ha hb hm
  rw [decide_eq_true rfl] at h
  refine h.mono ?_
  rintro e w' ⟨rfl, n, rfl⟩
  exact ⟨rfl, below_drewN (Below.refl _ _) n⟩
end Go.Proofs.Ytfiocfhehofheaa
