/- 'works', the closed check at the end of each law, answers true wherever it is called, and writes nothing that was there. -/
import Derived.Test.YtjkglimbmfgllaaCrc
import Derived.Test.YtjkglimbmfgllaaPut
import Derived.Test.YtjkglimbmfgllaaRound
import Derived.Test.YtjkglimbmfgllaaGone
import Derived.Test.YtjkglimbmfgllaaEq
import Derived.Lib.SlBytesConst
namespace Go.Proofs.Ytjkglimbmfgllaa
open Go.RowKit
set_option linter.unusedVariables false

theorem works_put (w : World) : Calls Try.prog 37 #[.slice (some ⟨w.heap.size, 0, none⟩) 1 1, .int .u16 513] (w.alloc (.cells #[.int .u8 7] 5)) fun e w' =>
    e = .returned (.slice (some ⟨w.heap.size + 1, 0, none⟩) 3 3) ∧ Below (w.heap.size + 1) (w.alloc (.cells #[.int .u8 7] 5)) w' ∧ OwnB w' (w.heap.size + 1) [7, 1, 2] := by
  have hO : OwnB (w.alloc (.cells #[.int .u8 7] 5)) w.heap.size [7] := heap_alloc_new w _
  have h := put16 (some ⟨w.heap.size, 0, none⟩) 1 513 [7] _ (hO.sl (by simp)) (by simp) (by omega)
  rw [World.size_alloc] at h
  exact h

theorem works_take (w : World) (g : Nat) (hO : OwnB w g [7, 1, 2]) : Calls Try.prog 43 #[.slice (some ⟨g, 0, none⟩) 3 3, .int .i64 1] w fun e w' =>
    e = .returned (.tuple #[.int .u16 513, .int .i64 0]) ∧ w' = w :=
  take16_good (some ⟨g, 0, none⟩) 3 1 [7, 1, 2] w (hO.sl (by simp)) (by decide) (by decide)

theorem works_round (w : World) : Calls Try.prog 29 #[.int .i64 1, .int .i64 8] w fun e w' => e = .returned (.tuple #[.int .i64 8, .int .i64 0]) ∧ w' = w :=
  roundP_any 1 8 (by decide) (by decide) w

theorem works_sumV : sumV [[49, 50, 51, 52], [53, 54, 55, 56, 57]] = 3808858755 := by decide +kernel

def wA : Obj := .cells #[.int .u8 49, .int .u8 50, .int .u8 51, .int .u8 52] 5 (4, 5)
def wB : Obj := .cells #[.int .u8 53, .int .u8 54, .int .u8 55, .int .u8 56, .int .u8 57] 5 (5, 6)
def wC (s : Nat) : Obj := .cells #[.slice (some ⟨s, 0, none⟩) 4 4, .slice (some ⟨s + 1, 0, none⟩) 5 5] 22

theorem works_sum (w : World) : Calls Try.prog 23 #[.slice (some ⟨w.heap.size + 2, 0, none⟩) 2 2] (((w.alloc wA).alloc wB).alloc (wC w.heap.size)) fun e w' =>
    e = .returned (.int .u32 3808858755) ∧ w' = ((w.alloc wA).alloc wB).alloc (wC w.heap.size) := by
  obtain ⟨W, hW⟩ : ∃ W, W = ((w.alloc wA).alloc wB).alloc (wC w.heap.size) := ⟨_, rfl⟩
  rw [← hW]
  have hsz : W.heap.size = w.heap.size + 3 := by rw [hW]; simp
  have h0 : W.heap[w.heap.size]? = some wA := by rw [hW, Below.heap_alloc _ _ _ (by simp; omega), Below.heap_alloc _ _ _ (by simp)]; exact heap_alloc_new w _
  have h1 : W.heap[w.heap.size + 1]? = some wB := by
    rw [hW, Below.heap_alloc _ _ _ (by simp)]
    have := heap_alloc_new (w.alloc wA) wB
    rwa [World.size_alloc] at this
  have h2 : W.heap[w.heap.size + 2]? = some (wC w.heap.size) := by
    rw [hW]
    have := heap_alloc_new ((w.alloc wA).alloc wB) (wC w.heap.size)
    rwa [World.size_alloc, World.size_alloc] at this
  clear hW
  have hs0 : Sl W (some ⟨w.heap.size, 0, none⟩) [49, 50, 51, 52] := by
    refine .inr ⟨_, _, rfl, by omega, fun i x hx => ?_⟩
    match i, hx with
    | 0, hx => simp at hx; subst hx; simp [World.cell?, h0, wA]
    | 1, hx => simp at hx; subst hx; simp [World.cell?, h0, wA]
    | 2, hx => simp at hx; subst hx; simp [World.cell?, h0, wA]
    | 3, hx => simp at hx; subst hx; simp [World.cell?, h0, wA]
    | n + 4, hx => simp at hx
  have hs1 : Sl W (some ⟨w.heap.size + 1, 0, none⟩) [53, 54, 55, 56, 57] := by
    refine .inr ⟨_, _, rfl, by omega, fun i x hx => ?_⟩
    match i, hx with
    | 0, hx => simp at hx; subst hx; simp [World.cell?, h1, wB]
    | 1, hx => simp at hx; subst hx; simp [World.cell?, h1, wB]
    | 2, hx => simp at hx; subst hx; simp [World.cell?, h1, wB]
    | 3, hx => simp at hx; subst hx; simp [World.cell?, h1, wB]
    | 4, hx => simp at hx; subst hx; simp [World.cell?, h1, wB]
    | n + 5, hx => simp at hx
  have hr : SlR W (some ⟨w.heap.size + 2, 0, none⟩) [[49, 50, 51, 52], [53, 54, 55, 56, 57]] := by
    refine .inr ⟨_, _, rfl, by omega, fun i r hx => ?_⟩
    match i, hx with
    | 0, hx => simp at hx; subst hx; exact ⟨_, 4, by simp [World.cell?, h2, wC], hs0, by decide⟩
    | 1, hx => simp at hx; subst hx; exact ⟨_, 5, by simp [World.cell?, h2, wC], hs1, by decide⟩
    | n + 2, hx => simp at hx
  have h := sum_any (some ⟨w.heap.size + 2, 0, none⟩) 2 _ W hr (by decide)
  rw [works_sumV] at h
  exact h

theorem works_sum' (w : World) : Calls Try.prog 23 #[.slice (some ⟨w.heap.size + 1 + 1, 0, none⟩) 2 2]
    (((w.alloc (.cells #[.int .u8 49, .int .u8 50, .int .u8 51, .int .u8 52] 5 (4, 5))).alloc (.cells #[.int .u8 53, .int .u8 54, .int .u8 55, .int .u8 56, .int .u8 57] 5 (5, 6))).alloc
      (.cells #[.slice (some ⟨w.heap.size, 0, none⟩) 4 4, .slice (some ⟨w.heap.size + 1, 0, none⟩) 5 5] 22)) fun e w' => e = .returned (.int .u32 3808858755) ∧ Below w.heap.size w w' := by
  refine (works_sum w).mono ?_
  rintro e w' ⟨rfl, rfl⟩
  exact ⟨rfl, (((Below.refl _ w).alloc (Nat.le_refl _) _).alloc (by simp) _).alloc (by simp; omega) _⟩

theorem works_units : (unitsV 64 60 8).take 9 = [0, 1] := by decide +kernel

theorem works_gone (w : World) : Calls Try.prog 34 #[.func (.func 48) #[] #[.pointer (some ⟨w.heap.size, 0, none⟩), .pointer (some ⟨w.heap.size + 1, 0, none⟩)], .int .i64 9]
    ((w.alloc (.cells #[.int .i64 60] 3)).alloc (.cells #[.int .i64 8] 3)) fun e W' => ∃ a cap, e = .returned (.slice a 2 cap) ∧ SlI W' a [0, 1] ∧ Below w.heap.size w W' := by
  have h := gone_lines 60 8 9 (by omega) (by omega) (by omega) (by omega) w.heap.size (w.heap.size + 1) ((w.alloc (.cells #[.int .i64 60] 3)).alloc (.cells #[.int .i64 8] 3)) (by simp; omega) (by simp) (by simp) (by simp)
  rw [works_units] at h
  refine h.mono ?_
  rintro e W' ⟨v, rfl, ho, hb⟩
  obtain ⟨a, cap, rfl, hs⟩ := sli_of_owns (zs := [0, 1]) ho
  exact ⟨a, cap, rfl, hs, (((Below.refl _ w).alloc (Nat.le_refl _) _).alloc (by simp) _).trans (hb.mono (by simp; omega))⟩

theorem works_eq (w : World) (a : Option Addr) (cap : Nat) (hs : SlI w a [0, 1]) : Calls Try.prog 33 #[.slice a 2 cap, .slice (some ⟨w.heap.size, 0, none⟩) 2 2] (w.alloc (.cells #[.int .i64 0, .int .i64 1] 3))
    fun e w' => e = .returned (.bool true) ∧ Below w.heap.size w w' := by
  have hB : Below w.heap.size w (w.alloc (.cells #[.int .i64 0, .int .i64 1] 3)) := (Below.refl _ _).alloc (Nat.le_refl _) _
  have hs2 : SlI (w.alloc (.cells #[.int .i64 0, .int .i64 1] 3)) (some ⟨w.heap.size, 0, none⟩) [0, 1] := by
    refine .inr ⟨_, _, rfl, by simp, fun i x hx => ?_⟩
    match i, hx with
    | 0, hx => simp at hx; subst hx; simp
    | 1, hx => simp at hx; subst hx; simp
    | n + 2, hx => simp at hx
  refine (eqInts_any a _ cap 2 [0, 1] [0, 1] _ (hs.below hB) hs2 (by decide)).mono ?_
  rintro e w' ⟨rfl, n, rfl⟩
  exact ⟨rfl, below_drewN hB n⟩

set_option maxHeartbeats 1000000 in
theorem works_any (w : World) : Calls Try.prog 16 #[] w fun e w' => e = .returned (.bool true) ∧ Below w.heap.size w w' := by
  have kc := fun (w : World) (C : Array Value) (n c : Nat) => Lib.run_convert_bytes_const (P := Try.prog) w 22 5 C n c Try.underlying22 Try.underlying5
  have kd : ∀ (w : World) (o : Obj) (C : Array Value) (n c : Nat), Sem.run Try.prog (convert 22 22 (.slice (some ⟨w.heap.size + 1, 0, none⟩) n c)) ((w.alloc o).alloc (.cells C 5)) =
      .ok (.slice (some ⟨w.heap.size + 1, 0, none⟩) n c) ((w.alloc o).alloc (.cells C 5 (C.size, C.size + 1))) := fun w o C n c => by
    have h := kc (w.alloc o) C n c
    rwa [World.size_alloc] at h
  go_enter Try.func16, Try.ntmps16
  go_wp2_with (first | (go_at_call 37; refine (works_put w).mono ?_; rintro e w1 ⟨rfl, hB1, hO1⟩) | (go_at_call 43; refine (works_take _ _ hO1).mono ?_; rintro e w2 ⟨rfl, rfl⟩) | (go_at_call 29; refine (works_round _).mono ?_; rintro e w3 ⟨rfl, rfl⟩) | (go_at_call 23; refine (works_sum' _).mono ?_; rintro e w4 ⟨rfl, hB4⟩) | (go_at_call 35; refine (lines_any _ _ _).mono ?_; rintro e w5 ⟨rfl, rfl⟩) | (go_at_call 34; refine (works_gone _).mono ?_; rintro e w6 ⟨a, cap, rfl, hs6, hB6⟩) | (go_at_call 33; refine (works_eq _ a cap hs6).mono ?_; rintro e w7 ⟨rfl, hB7⟩))
  go_ret
  have h3 : Below w.heap.size w w3 := ((Below.refl _ w).alloc (Nat.le_refl _) _).trans (hB1.mono (by omega))
  exact ⟨rfl, bseq (bseq (bseq h3 hB4) hB6) hB7⟩
end Go.Proofs.Ytjkglimbmfgllaa
