/- What the document's May, Sequence, begins, number and First answer. -/
import Derived.Test.YtfiocfhehofheaaURefM
import Derived.Test.YtfiocfhehofheaaUAwake
import Derived.Deep.QuietTactic
import Derived.BigQuiet
import Derived.Laws.ShiftsVar
namespace Go.Proofs.Ytfiocfhehofheaa
open Go.RowKit
set_option linter.unusedVariables false

def May' (n : Int) : Prop := 0 ≤ n ∧ n ≤ 1114111 ∧ (n < 55296 ∨ 57343 < n)
theorem may_any (n : Int) (w : World) (h1 : -2147483648 ≤ n) (h2 : n ≤ 2147483647) : Calls Try.prog 37 #[.int .i32 n] w fun e w' => e = .returned (.bool (mayB n)) ∧ w' = w := by
  by_cases a1 : 0 ≤ n
  · by_cases a2 : n ≤ 1114111
    · by_cases a3 : n < 55296
      · rw [mayB_iff.2 ⟨a1, a2, .inl a3⟩]
        go_enter Try.func37, Try.ntmps37
        go_wp2
        go_ret
        exact ⟨rfl, rfl⟩
      · have a3' : 55296 ≤ n := by omega
        by_cases a4 : 57343 < n
        · rw [mayB_iff.2 ⟨a1, a2, .inr a4⟩]
          go_enter Try.func37, Try.ntmps37
          go_wp2
          go_ret
          exact ⟨rfl, rfl⟩
        · have hm : mayB n = false := by unfold mayB; exact decide_eq_false (by omega)
          have a4' : n ≤ 57343 := by omega
          rw [hm]; clear hm
          go_enter Try.func37, Try.ntmps37
          go_wp2
          go_ret
          exact ⟨rfl, rfl⟩
    · have hm : mayB n = false := by unfold mayB; exact decide_eq_false (by omega)
      have a2' : 1114111 < n := by omega
      rw [hm]; clear hm
      go_enter Try.func37, Try.ntmps37
      go_wp2
      go_ret
      exact ⟨rfl, rfl⟩
  · have hm : mayB n = false := by unfold mayB; exact decide_eq_false (by omega)
    have a1' : n < 0 := by omega
    rw [hm]; clear hm
    go_enter Try.func37, Try.ntmps37
    go_wp2
    go_ret
    exact ⟨rfl, rfl⟩

def B8 (x : Nat) : Value := .int .u8 (x : Int)
/-- What a slice of bytes holds. -/
def SlB (w : World) (a : Option Addr) (bs : List Nat) : Prop :=
  bs = [] ∨ ∃ b off, a = some ⟨b, off, none⟩ ∧ b < w.heap.size ∧ ∀ (i x : Nat), bs[i]? = some x → w.cell? ⟨b, off + i, none⟩ = some (.int .u8 (x : Int))
theorem SlB.below {w w' : World} {a : Option Addr} {bs : List Nat} (h : SlB w a bs) (hb : Below w.heap.size w w') : SlB w' a bs := by
  rcases h with h | ⟨b, off, ha, hl, hs⟩
  · exact .inl h
  · exact .inr ⟨b, off, ha, Nat.lt_of_lt_of_le hl hb.size, fun i x hx => (hb.cell (p := ⟨b, off + i, none⟩) hl).trans (hs i x hx)⟩

set_option maxHeartbeats 400000 in
theorem seq_w1 (z : Int) (w : World) (h0 : 0 ≤ z) (h1 : z < 128) : Calls Try.prog 39 #[.int .i32 z] w fun e w' =>
    e = .returned (.slice (some ⟨w.heap.size, 0, none⟩) 1 1) ∧ w' = w.alloc (.cells #[.int .u8 z] 5) := by
  go_enter Try.func39, Try.ntmps39
  go_wp2
  go_ret
  exact ⟨rfl, rfl⟩
set_option maxHeartbeats 400000 in
theorem seq_w2 (z : Int) (w : World) (h0 : 128 ≤ z) (h1 : z < 2048) : Calls Try.prog 39 #[.int .i32 z] w fun e w' =>
    e = .returned (.slice (some ⟨w.heap.size, 0, none⟩) 2 2) ∧ w' = w.alloc (.cells #[.int .u8 (192 + z / 64), .int .u8 (128 + z % 64)] 5) := by
  go_enter Try.func39, Try.ntmps39
  go_wp2
  go_ret
  exact ⟨rfl, rfl⟩
set_option maxHeartbeats 400000 in
theorem seq_w3 (z : Int) (w : World) (h0 : 2048 ≤ z) (h1 : z < 65536) : Calls Try.prog 39 #[.int .i32 z] w fun e w' =>
    e = .returned (.slice (some ⟨w.heap.size, 0, none⟩) 3 3) ∧ w' = w.alloc (.cells #[.int .u8 (224 + z / 4096), .int .u8 (128 + z / 64 % 64), .int .u8 (128 + z % 64)] 5) := by
  go_enter Try.func39, Try.ntmps39
  go_wp2
  go_ret
  exact ⟨rfl, rfl⟩
set_option maxHeartbeats 400000 in
theorem seq_w4 (z : Int) (w : World) (h0 : 65536 ≤ z) (h1 : z ≤ 1114111) : Calls Try.prog 39 #[.int .i32 z] w fun e w' =>
    e = .returned (.slice (some ⟨w.heap.size, 0, none⟩) 4 4) ∧ w' = w.alloc (.cells #[.int .u8 (240 + z / 262144), .int .u8 (128 + z / 4096 % 64), .int .u8 (128 + z / 64 % 64), .int .u8 (128 + z % 64)] 5) := by
  go_enter Try.func39, Try.ntmps39
  go_wp2
  go_ret
  exact ⟨rfl, rfl⟩

theorem seq_any (n : Nat) (w : World) (hn : n ≤ 1114111) : Calls Try.prog 39 #[.int .i32 n] w fun e w' =>
    e = .returned (.slice (some ⟨w.heap.size, 0, none⟩) (seqV n).length (seqV n).length) ∧ w' = w.alloc (.cells ((seqV n).map B8).toArray 5) := by
  by_cases a1 : n < 128
  · have hs : seqV n = [n] := by unfold seqV; rw [if_pos a1]
    rw [hs]
    exact seq_w1 n w (by omega) (by omega)
  · by_cases a2 : n < 2048
    · have hs : seqV n = [192 + n / 64, 128 + n % 64] := by unfold seqV; rw [if_neg a1, if_pos a2]
      rw [hs]
      exact seq_w2 n w (by omega) (by omega)
    · by_cases a3 : n < 65536
      · have hs : seqV n = [224 + n / 4096, 128 + n / 64 % 64, 128 + n % 64] := by unfold seqV; rw [if_neg a1, if_neg a2, if_pos a3]
        rw [hs]
        exact seq_w3 n w (by omega) (by omega)
      · have hs : seqV n = [240 + n / 262144, 128 + n / 4096 % 64, 128 + n / 64 % 64, 128 + n % 64] := by unfold seqV; rw [if_neg a1, if_neg a2, if_neg a3]
        rw [hs]
        exact seq_w4 n w (by omega) (by omega)
theorem seq_sl (n : Nat) (w : World) : SlB (w.alloc (.cells ((seqV n).map B8).toArray 5)) (some ⟨w.heap.size, 0, none⟩) (seqV n) := by
  refine .inr ⟨_, _, rfl, by simp, fun i x hx => ?_⟩
  have := World.cell?_alloc_mark w ((seqV n).map B8).toArray 5 (0, 0) (0 + i)
  rw [this]
  simp [hx, B8]

theorem begins_short (s : ByteArray) (a : Option Addr) (m c : Nat) (w : World) (h : (s.size : Int) < (m : Int)) :
    Calls Try.prog 38 #[.string s, .slice a m c] w fun e w' => e = .returned (.bool false) ∧ w' = w := by
  go_enter Try.func38, Try.ntmps38
  go_wp2
  go_ret
  exact ⟨rfl, rfl⟩

set_option maxHeartbeats 400000 in
theorem begins_long (s : ByteArray) (a : Option Addr) (c : Nat) (bs : List Nat) (w : World) (hg : SlB w a bs) (hm : bs.length ≤ s.size) (hs : s.size ≤ 9223372036854775807) :
    Calls Try.prog 38 #[.string s, .slice a bs.length c] w fun e w' => e = .returned (.bool (begB (bl s) bs)) ∧ ∃ n, w' = w.drewN n := by
  have hm' : (bs.length : Int) ≤ (s.size : Int) := by omega
  go_enter Try.func38, Try.ntmps38
  go_wp2
  go_loopw [5] (fun q wr => ∃ k n : Nat, k ≤ bs.length ∧ q = .int .i64 k ∧ (∀ i, i < k → by' (bl s) i = bs.getD i 0) ∧ wr = w.drewN n) (fun q _ => bs.length - (intOf q).toNat)
  case atStart => exact ⟨0, 0, by omega, rfl, fun i hi => by omega, rfl⟩
  case round =>
    obtain ⟨k, n, hk, rfl, ht, rfl⟩ := hrel
    have HT := hide ht
    clear ht
    by_cases hlt : k < bs.length
    · obtain ⟨x, hx⟩ : ∃ x, bs[k]? = some x := ⟨_, List.getElem?_eq_getElem hlt⟩
      obtain ⟨b, off, rfl, _, hs1⟩ : ∃ b off, a = some ⟨b, off, none⟩ ∧ b < w.heap.size ∧ ∀ (i x : Nat), bs[i]? = some x → w.cell? ⟨b, off + i, none⟩ = some (.int .u8 (x : Int)) := by
        rcases hg with rfl | h
        · simp at hlt
        · exact h
      have c1 := hs1 k x hx
      have HX := hide hx
      clear hx hs1 hg
      have hki : (k : Int) < (bs.length : Int) := by omega
      have hks : (k : Int) < (s.size : Int) := by omega
      have hks' : k < s.size := by omega
      have hb := by'_get s k hks'
      have HB := hide hb
      clear hb
      by_cases hxy : (s[k]'hks').toNat = x
      · have hq : (((s[k]'hks').toNat : Int) != (x : Int)) = false := by simp [hxy]
        have HXY := hide hxy
        clear hxy
        go_wp2
        go_quiet (fail)
        go_wp2
        go_roundw
        case rel =>
          refine ⟨k + 1, n + nq, by omega, by go_num, fun i hi => ?_, rfl⟩
          by_cases hik : i < k
          · exact HT.out i hik
          · have : i = k := by omega
            subst this
            unfold bl
            rw [HB.out, HXY.out, List.getD_eq_getElem?_getD, HX.out]; rfl
        case measure => simp [intOf]; omega
      · have hq : (((s[k]'hks').toNat : Int) != (x : Int)) = true := by simp; omega
        have HXY := hide hxy
        clear hxy
        go_wp2
        go_quiet (fail)
        go_wp2
        go_ret
        refine ⟨ret_bool (Eq.symm (decide_eq_false fun h => HXY.out ?_)), n + nq, by simp⟩
        have := h.2 k hlt
        unfold bl at this
        rw [HB.out, List.getD_eq_getElem?_getD, HX.out] at this
        exact this
    · have hkk : k = bs.length := by omega
      subst hkk
      go_wp2
      go_ret
      refine ⟨ret_bool (Eq.symm (decide_eq_true ⟨by rw [bl_len]; exact hm, HT.out⟩)), _, rfl⟩

theorem begins_any' (s : ByteArray) (a : Option Addr) (c : Nat) (bs : List Nat) (w : World) (hg : SlB w a bs) (hs : s.size ≤ 9223372036854775807) :
    Calls Try.prog 38 #[.string s, .slice a bs.length c] w fun e w' => e = .returned (.bool (begB (bl s) bs)) ∧ Below w.heap.size w w' := by
  by_cases h : bs.length ≤ s.size
  · refine (begins_long s a c bs w hg h hs).mono ?_
    rintro e w' ⟨rfl, n, rfl⟩
    exact ⟨rfl, below_drewN (Below.refl _ _) n⟩
  · have : begB (bl s) bs = false := decide_eq_false (fun k => by rw [bl_len] at k; omega)
    rw [this]
    refine (begins_short s a bs.length c w (by omega)).mono ?_
    rintro e w' ⟨rfl, rfl⟩
    exact ⟨rfl, Below.refl _ _⟩
end Go.Proofs.Ytfiocfhehofheaa
