/- What the document's Fold answers. -/
import Derived.Test.YtobemmfgpjgiaaaKRef3
namespace Go.Proofs.Ytobemmfgpjgiaaa
open Go.RowKit
set_option linter.unusedVariables false

theorem foldRows_len : foldRows.length = 35 := by decide
theorem foldR_at {r : Int} {k : Nat} {x : Int × Int × Int × Int} (h : foldRows[k]? = some x) : foldR r (foldRows.drop k) = if x.1 ≤ r ∧ r ≤ x.2.1 ∧ (r - x.1) % x.2.2.1 = 0 then r + x.2.2.2 else foldR r (foldRows.drop (k + 1)) := by
  obtain ⟨hk, e⟩ := List.getElem?_eq_some_iff.1 h
  rw [List.drop_eq_getElem_cons hk, e]
  rfl
set_option maxHeartbeats 2000000 in
theorem rfold_any (r : Int) (w : World) (hr : -2147483648 ≤ r ∧ r ≤ 2147483647) : Calls Try.prog 18 #[.int .i32 r] w fun e w' => e = .returned (.int .i32 (foldK r)) ∧ Below w.heap.size w w' := by
  have hR := fold_R r
  generalize foldK r = R at *
  have HR := hide hR
  clear hR
  have hc := folds_cells w
  have hBW : Below w.heap.size w (w.alloc (.cells (foldsZ.map fun x => Value.int .i32 x).toArray 21)) := (Below.refl _ w).alloc (Nat.le_refl _) _
  have kf := rfolds_any w
  obtain ⟨N, hN⟩ : ∃ N : Nat, 140 = N := ⟨_, rfl⟩
  rw [hN] at kf
  obtain ⟨W, hW⟩ : ∃ W, w.alloc (.cells (foldsZ.map fun x => Value.int .i32 x).toArray 21) = W := ⟨_, rfl⟩
  rw [hW] at hc hBW kf
  rw [rows_flat] at hc
  have HC := hide hc
  have HN := hide hN
  have KF := hide kf
  have hr1 := hr.1
  have hr2 := hr.2
  clear hc kf hW hr hN
  go_enter Try.func18, Try.ntmps18
  go_wp2_with (go_at_call 34; refine KF.out.mono ?_; rintro e w1 ⟨rfl, rfl⟩)
  go_loopw [4] (fun q wr => ∃ k n : Nat, q = .int .i64 (((4 * k : Nat)) : Int) ∧ k ≤ 35 ∧ foldR r (foldRows.drop k) = R ∧ wr = w1.drewN n) (fun q _ => 200 - (intOf q).toNat)
  case atStart => exact ⟨0, 0, rfl, by omega, by simpa using HR.out, by first | rfl | simp⟩
  case round =>
    clear HR KF
    obtain ⟨k, n, rfl, hk, hz, hwr⟩ := hrel
    have HWR := hide hwr
    have hBr : Below w.heap.size w wr := by rw [hwr]; exact below_drewN hBW _
    by_cases hlt : k < 35
    · obtain ⟨x, hx⟩ : ∃ x, foldRows[k]? = some x := ⟨_, List.getElem?_eq_getElem (by rw [foldRows_len]; exact hlt)⟩
      obtain ⟨a0, a1, a2, a3⟩ := flat_at _ _ _ hx
      have c0 : wr.cell? ⟨w.heap.size, 4 * k, none⟩ = some (.int .i32 x.1) := by rw [hwr]; exact HC.out _ _ a0
      have c1 : wr.cell? ⟨w.heap.size, 4 * k + 1, none⟩ = some (.int .i32 x.2.1) := by rw [hwr]; exact HC.out _ _ a1
      have c2 : wr.cell? ⟨w.heap.size, 4 * k + 2, none⟩ = some (.int .i32 x.2.2.1) := by rw [hwr]; exact HC.out _ _ a2
      have c3 : wr.cell? ⟨w.heap.size, 4 * k + 3, none⟩ = some (.int .i32 x.2.2.2) := by rw [hwr]; exact HC.out _ _ a3
      obtain ⟨o1, o2, o3, o4, o5⟩ := rows_ok x (List.mem_of_getElem? hx)
      rw [foldR_at hx] at hz
      obtain ⟨a, b, s, d⟩ := x
      simp only at c0 c1 c2 c3 o1 o2 o3 o4 o5 hz
      have hi : 4 * k + 3 < 140 := by omega
      have HK := hide (show 4 * (k + 1) = 4 * k + 4 by omega)
      have HKk := hide hlt
      generalize 4 * k = i at *
      have hiI : (i : Int) + 3 < (N : Int) := by have := HN.out; omega
      have HI := hide hi
      have hw1 : IntKind.i64.wrap ((i : Int) + 1) = ((i + 1 : Nat) : Int) := by rw [IntKind.wrap_i64]; omega
      have hw2 : IntKind.i64.wrap ((i : Int) + 2) = ((i + 2 : Nat) : Int) := by rw [IntKind.wrap_i64]; omega
      have hw4 : IntKind.i64.wrap ((i : Int) + 3) = ((i + 3 : Nat) : Int) := by rw [IntKind.wrap_i64]; omega
      have hib : (i : Int) ≤ 1000 := by omega
      have hl0 : i < N := by have := HN.out; omega
      have hl1 : i + 1 < N := by have := HN.out; omega
      have hl2 : i + 2 < N := by have := HN.out; omega
      have hl3 : i + 3 < N := by have := HN.out; omega
      clear a0 a1 a2 a3 hx hk hlt hi hwr
      by_cases h1 : a ≤ r
      · by_cases h2 : r ≤ b
        · have hra : 0 ≤ r - a := by omega
          have hw5 : IntKind.i32.wrap (r + d) = r + d := by rw [IntKind.wrap_i32]; omega
          have hw3 : IntKind.i32.wrap (r - a) = r - a := by rw [IntKind.wrap_i32]; omega
          rcases o3 with rfl | rfl
          · rw [if_pos ⟨h1, h2, Int.emod_one _⟩] at hz
            subst hz
            go_wp2
            go_quiet (fail)
            go_wp2
            go_ret
            first | exact ⟨rfl, hBr⟩ | exact ⟨rfl, below_drewN hBr _⟩ | exact ⟨rfl, below_drewN (below_drewN hBr _) _⟩
          · by_cases h3 : (r - a) % 2 = 0
            · rw [if_pos ⟨h1, h2, h3⟩] at hz
              subst hz
              have hq : ((r - a) % 2 == 0) = true := by simp [h3]
              clear h3
              go_wp2
              go_quiet (fail)
              go_wp2
              go_ret
              first | exact ⟨rfl, hBr⟩ | exact ⟨rfl, below_drewN hBr _⟩ | exact ⟨rfl, below_drewN (below_drewN hBr _) _⟩
            · rw [if_neg (fun h => h3 h.2.2)] at hz
              have HZ := hide hz
              have hq : ((r - a) % 2 == 0) = false := by simp [h3]
              clear h3 hz
              go_wp2
              go_quiet (fail)
              go_wp2
              go_roundw
              case rel => exact ⟨k + 1, n + nq, by rw [HK.out]; go_num, by have := HKk.out; omega, HZ.out, by rw [HWR.out]; first | rfl | simp⟩
              case measure => have := HI.out; simp [intOf]; omega
        · rw [if_neg (fun h => h2 h.2.1)] at hz
          have HZ := hide hz
          have h2' : b < r := by omega
          have hd2 : decide (r ≤ b) = false := decide_eq_false h2
          clear hz
          go_wp2
          go_quiet (fail)
          go_wp2
          go_roundw
          case rel => exact ⟨k + 1, n + nq, by rw [HK.out]; go_num, by have := HKk.out; omega, HZ.out, by rw [HWR.out]; first | rfl | simp⟩
          case measure => have := HI.out; simp [intOf]; omega
      · rw [if_neg (fun h => h1 h.1)] at hz
        have HZ := hide hz
        have h1' : r < a := by omega
        have hd1 : decide (a ≤ r) = false := decide_eq_false h1
        clear hz
        go_wp2
        go_quiet (fail)
        go_wp2
        go_roundw
        case rel => exact ⟨k + 1, n + nq, by rw [HK.out]; go_num, by have := HKk.out; omega, HZ.out, by rw [HWR.out]; first | rfl | simp⟩
        case measure => have := HI.out; simp [intOf]; omega
    · have e : k = 35 := by omega
      subst e
      have hz' : r = R := hz
      subst hz'
      have hiI : (N : Int) ≤ ((4 * 35 : Nat) : Int) := by have := HN.out; omega
      clear hz hk hlt HC hwr
      go_wp2
      go_ret
      first | exact ⟨rfl, hBr⟩ | exact ⟨rfl, below_drewN hBr _⟩ | exact ⟨rfl, below_drewN (below_drewN hBr _) _⟩
end Go.Proofs.Ytobemmfgpjgiaaa
