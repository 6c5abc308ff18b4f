/- What eq answers of two lists of the same tallies; what a store into a row of tallies does. -/
import Derived.Test.YtojbclifafmllaaTRu
import Derived.Test.YtojbclifafmllaaTPt
namespace Go.Proofs.Ytojbclifafmllaa
open Go.RowKit
set_option linter.unusedVariables false

set_option maxHeartbeats 1000000 in
theorem eq_yes (a b : Option Addr) (c d : Nat) (xs : List (Int × Int × Int × ByteArray × ByteArray)) (n : Nat) (hn : xs.length = n) (w : World) (ha : SlT w a xs) (hb : SlT w b xs) (hm : n ≤ 9223372036854775807) :
    Calls Try.prog 15 #[.slice a n c, .slice b n d] w fun e w' => e = .returned (.bool true) ∧ Below w.heap.size w w' := by
  have hne : ((n : Int) != (n : Int)) = false := by simp
  have HA := hide ha
  have HB := hide hb
  have HN := hide hn
  clear ha hb hn
  have hg := Try.noGuard24
  go_enter Try.func15, Try.ntmps15
  go_wp2_with (fail)
  go_loopw [5] (fun i wr => ∃ k m : Nat, k ≤ n ∧ i = .int .i64 k ∧ wr = w.drewN m) (fun i _ => n - (intOf i).toNat)
  case atStart => exact ⟨0, 0, by omega, rfl, rfl⟩
  case round =>
    obtain ⟨k, m, hk, rfl, rfl⟩ := hrel
    by_cases hlt : k < n
    · obtain ⟨x, hx⟩ : ∃ x, xs[k]? = some x := ⟨_, List.getElem?_eq_getElem (by rw [HN.out]; exact hlt)⟩
      obtain ⟨b1, o1, rfl, _, hs1⟩ : ∃ b off, a = some ⟨b, off, none⟩ ∧ b < w.heap.size ∧ ∀ (i : Nat) (x : (Int × Int × Int × ByteArray × ByteArray)), xs[i]? = some x → w.cell? ⟨b, off + i * 5, none⟩ = some (.int .i64 x.1) ∧ w.cell? ⟨b, off + i * 5 + 1, none⟩ = some (.int .i64 x.2.1) ∧ w.cell? ⟨b, off + i * 5 + 2, none⟩ = some (.int .i64 x.2.2.1) ∧ w.cell? ⟨b, off + i * 5 + 3, none⟩ = some (.string x.2.2.2.1) ∧ w.cell? ⟨b, off + i * 5 + 4, none⟩ = some (.string x.2.2.2.2) := by
        rcases HA.out with h | h
        · rw [h] at hx; simp at hx
        · exact h
      obtain ⟨b2, o2, rfl, _, hs2⟩ : ∃ b0 off, b = some ⟨b0, off, none⟩ ∧ b0 < w.heap.size ∧ ∀ (i : Nat) (x : (Int × Int × Int × ByteArray × ByteArray)), xs[i]? = some x → w.cell? ⟨b0, off + i * 5, none⟩ = some (.int .i64 x.1) ∧ w.cell? ⟨b0, off + i * 5 + 1, none⟩ = some (.int .i64 x.2.1) ∧ w.cell? ⟨b0, off + i * 5 + 2, none⟩ = some (.int .i64 x.2.2.1) ∧ w.cell? ⟨b0, off + i * 5 + 3, none⟩ = some (.string x.2.2.2.1) ∧ w.cell? ⟨b0, off + i * 5 + 4, none⟩ = some (.string x.2.2.2.2) := by
        rcases HB.out with h | h
        · rw [h] at hx; simp at hx
        · exact h
      obtain ⟨p0, p1, p2, p3, p4⟩ := hs1 k x hx
      obtain ⟨q0, q1, q2, q3, q4⟩ := hs2 k x hx
      obtain ⟨xb, xc, xl, xh, xt⟩ := x
      dsimp only at *
      have heq := fun w => eql_ty xb xc xl xh xt xb xc xl xh xt w
      rw [show sameT xb xc xl xh xt xb xc xl xh xt = true from decide_eq_true ⟨rfl, rfl, rfl, rfl, rfl⟩] at heq
      have hki : (k : Int) < (n : Int) := by omega
      clear hs1 hs2 hx
      go_wp2_with (fail)
      go_quiet (fail)
      go_wp2_with (fail)
      go_roundw
      case rel => exact ⟨k + 1, m + nq, by omega, by go_num, rfl⟩
      case measure => simp [intOf]; omega
    · have hkk : (n : Int) ≤ (k : Int) := by omega
      go_wp2_with (fail)
      go_ret
      exact ⟨rfl, below_drewN (Below.refl _ _) m⟩

theorem tCs_set (ys : List (Int × Int × Int × ByteArray × ByteArray)) : ∀ i, i < ys.length → ∀ x : (Int × Int × Int × ByteArray × ByteArray), (((((tCs ys).set (i * 5) (.int .i64 x.1)).set (i * 5 + 1) (.int .i64 x.2.1)).set (i * 5 + 2) (.int .i64 x.2.2.1)).set (i * 5 + 3) (.string x.2.2.2.1)).set (i * 5 + 4) (.string x.2.2.2.2) = tCs (ys.set i x) := by
  induction ys with
  | nil => intro i hi; simp at hi
  | cons y ys ih =>
    intro i hi x
    match i with
    | 0 => rfl
    | i + 1 =>
      have h := ih i (by simpa using hi) x
      show (((((tC y ++ tCs ys).set ((i + 1) * 5) _).set ((i + 1) * 5 + 1) _).set ((i + 1) * 5 + 2) _).set ((i + 1) * 5 + 3) _).set ((i + 1) * 5 + 4) _ = tC y ++ tCs (ys.set i x)
      rw [← h]
      have e : ∀ j, (i + 1) * 5 + j = i * 5 + j + 5 := fun j => by omega
      rw [show (i + 1) * 5 = i * 5 + 5 by omega, show i * 5 + 5 + 1 = i * 5 + 1 + 5 by omega, show i * 5 + 5 + 2 = i * 5 + 2 + 5 by omega, show i * 5 + 5 + 3 = i * 5 + 3 + 5 by omega, show i * 5 + 5 + 4 = i * 5 + 4 + 5 by omega]
      rfl
set_option maxHeartbeats 4000000 in
/-- A tally is stored into a row of tallies. -/
theorem chainAt {W : World} {B i : Nat} {ys : List (Int × Int × Int × ByteArray × ByteArray)} {ty : TypeId} (hR : W.heap[B]? = some (.cells (tCs ys).toArray ty (0, 0))) (hi : i < ys.length) (x : (Int × Int × Int × ByteArray × ByteArray)) :
    (∃ a0 a1 a2 a3 a4, W.cell? ⟨B, i * 5, none⟩ = some a0 ∧ (W.setCell ⟨B, i * 5, none⟩ (.int .i64 x.1)).cell? ⟨B, i * 5 + 1, none⟩ = some a1 ∧ ((W.setCell ⟨B, i * 5, none⟩ (.int .i64 x.1)).setCell ⟨B, i * 5 + 1, none⟩ (.int .i64 x.2.1)).cell? ⟨B, i * 5 + 2, none⟩ = some a2 ∧
      (((W.setCell ⟨B, i * 5, none⟩ (.int .i64 x.1)).setCell ⟨B, i * 5 + 1, none⟩ (.int .i64 x.2.1)).setCell ⟨B, i * 5 + 2, none⟩ (.int .i64 x.2.2.1)).cell? ⟨B, i * 5 + 3, none⟩ = some a3 ∧ ((((W.setCell ⟨B, i * 5, none⟩ (.int .i64 x.1)).setCell ⟨B, i * 5 + 1, none⟩ (.int .i64 x.2.1)).setCell ⟨B, i * 5 + 2, none⟩ (.int .i64 x.2.2.1)).setCell ⟨B, i * 5 + 3, none⟩ (.string x.2.2.2.1)).cell? ⟨B, i * 5 + 4, none⟩ = some a4) ∧
    (W.frozen? ⟨B, i * 5, none⟩ = false ∧ W.frozen? ⟨B, i * 5 + 1, none⟩ = false ∧ W.frozen? ⟨B, i * 5 + 2, none⟩ = false ∧ W.frozen? ⟨B, i * 5 + 3, none⟩ = false ∧ W.frozen? ⟨B, i * 5 + 4, none⟩ = false) ∧
    (((((W.setCell ⟨B, i * 5, none⟩ (.int .i64 x.1)).setCell ⟨B, i * 5 + 1, none⟩ (.int .i64 x.2.1)).setCell ⟨B, i * 5 + 2, none⟩ (.int .i64 x.2.2.1)).setCell ⟨B, i * 5 + 3, none⟩ (.string x.2.2.2.1)).setCell ⟨B, i * 5 + 4, none⟩ (.string x.2.2.2.2)).heap[B]? = some (.cells (tCs (ys.set i x)).toArray ty (0, 0)) ∧
    (∀ k, k ≠ B → (((((W.setCell ⟨B, i * 5, none⟩ (.int .i64 x.1)).setCell ⟨B, i * 5 + 1, none⟩ (.int .i64 x.2.1)).setCell ⟨B, i * 5 + 2, none⟩ (.int .i64 x.2.2.1)).setCell ⟨B, i * 5 + 3, none⟩ (.string x.2.2.2.1)).setCell ⟨B, i * 5 + 4, none⟩ (.string x.2.2.2.2)).heap[k]? = W.heap[k]?) ∧
    (∀ base a, base ≤ B → Below base a W → Below base a (((((W.setCell ⟨B, i * 5, none⟩ (.int .i64 x.1)).setCell ⟨B, i * 5 + 1, none⟩ (.int .i64 x.2.1)).setCell ⟨B, i * 5 + 2, none⟩ (.int .i64 x.2.2.1)).setCell ⟨B, i * 5 + 3, none⟩ (.string x.2.2.2.1)).setCell ⟨B, i * 5 + 4, none⟩ (.string x.2.2.2.2))) := by
  have hlen := tCs_len ys
  have R1 := heap_setCell_same W B (i * 5) _ _ (.int .i64 x.1) hR
  have R2 := heap_setCell_same _ B (i * 5 + 1) _ _ (.int .i64 x.2.1) R1
  have R3 := heap_setCell_same _ B (i * 5 + 2) _ _ (.int .i64 x.2.2.1) R2
  have R4 := heap_setCell_same _ B (i * 5 + 3) _ _ (.string x.2.2.2.1) R3
  have R5 := heap_setCell_same _ B (i * 5 + 4) _ _ (.string x.2.2.2.2) R4
  have get : ∀ (cs : Array Value) (j : Nat), cs.size = (tCs ys).length → j < (tCs ys).length → ∃ v, cs[j]? = some v := fun cs j h1 h2 => ⟨_, Array.getElem?_eq_getElem (by omega)⟩
  obtain ⟨a0, g0⟩ := get (tCs ys).toArray (i * 5) (by simp) (by omega)
  obtain ⟨a1, g1⟩ := get _ (i * 5 + 1) (by simp : ((tCs ys).toArray.setIfInBounds (i * 5) (.int .i64 x.1)).size = _) (by omega)
  obtain ⟨a2, g2⟩ := get _ (i * 5 + 2) (by simp : (((tCs ys).toArray.setIfInBounds (i * 5) (.int .i64 x.1)).setIfInBounds (i * 5 + 1) (.int .i64 x.2.1)).size = _) (by omega)
  obtain ⟨a3, g3⟩ := get _ (i * 5 + 3) (by simp : ((((tCs ys).toArray.setIfInBounds (i * 5) (.int .i64 x.1)).setIfInBounds (i * 5 + 1) (.int .i64 x.2.1)).setIfInBounds (i * 5 + 2) (.int .i64 x.2.2.1)).size = _) (by omega)
  obtain ⟨a4, g4⟩ := get _ (i * 5 + 4) (by simp : (((((tCs ys).toArray.setIfInBounds (i * 5) (.int .i64 x.1)).setIfInBounds (i * 5 + 1) (.int .i64 x.2.1)).setIfInBounds (i * 5 + 2) (.int .i64 x.2.2.1)).setIfInBounds (i * 5 + 3) (.string x.2.2.2.1)).size = _) (by omega)
  have hset : ((((((tCs ys).toArray.setIfInBounds (i * 5) (.int .i64 x.1)).setIfInBounds (i * 5 + 1) (.int .i64 x.2.1)).setIfInBounds (i * 5 + 2) (.int .i64 x.2.2.1)).setIfInBounds (i * 5 + 3) (.string x.2.2.2.1)).setIfInBounds (i * 5 + 4) (.string x.2.2.2.2)) = (tCs (ys.set i x)).toArray := by
    simp only [List.setIfInBounds_toArray]
    rw [tCs_set ys i hi x]
  rw [hset] at R5
  refine ⟨⟨a0, a1, a2, a3, a4, cell_of hR _ _ g0, cell_of R1 _ _ g1, cell_of R2 _ _ g2, cell_of R3 _ _ g3, cell_of R4 _ _ g4⟩, ⟨frozen_of hR _, frozen_of hR _, frozen_of hR _, frozen_of hR _, frozen_of hR _⟩, R5, ?_, ?_⟩
  · intro k hk
    rw [heap_setCell_other _ _ _ _ hk, heap_setCell_other _ _ _ _ hk, heap_setCell_other _ _ _ _ hk, heap_setCell_other _ _ _ _ hk, heap_setCell_other _ _ _ _ hk]
  · intro base a hb hB
    exact ((((hB.setCell hb _).setCell hb _).setCell hb _).setCell hb _).setCell hb _
end Go.Proofs.Ytojbclifafmllaa
