/- What join answers: two lists of runes, one behind the other, in memory of its own. -/
import Derived.Test.YtfiocfhehofheaaURun
import Derived.Laws.AppendOwnNone
namespace Go.Proofs.Ytfiocfhehofheaa
open Go.RowKit
set_option linter.unusedVariables false

theorem slu_cells {W : World} {ad : Addr} {zs : List Int} (h : SlU W (some ad) zs) : ∀ j u, (zs.map R32)[j]? = some u → W.cell? (ad.add j) = some u := by
  intro j u hu
  rw [List.getElem?_map] at hu
  obtain ⟨x, hx, rfl⟩ := Option.map_eq_some_iff.1 hu
  rcases h with h | ⟨b, off, hb, _, hc⟩
  · rw [h] at hx; simp at hx
  · cases hb
    have e : (⟨b, off, none⟩ : Addr).add j = ⟨b, off + j, none⟩ := by simp [Addr.add]
    rw [e]
    exact hc j x hx
theorem slu_grown {W W' : World} {ad : Addr} {zs : List Int} {base : Nat} {row : Option Nat} (h : SlU W (some ad) zs) (hg : W.grownBy W' row) (hr : ∀ k, row = some k → base ≤ k) (hb : zs = [] ∨ ad.block < base) : SlU W' (some ad) zs := by
  rcases h with h | ⟨b, off, hb', hl, hc⟩
  · exact .inl h
  · rcases hb with h0 | hb
    · exact .inl h0
    · cases hb'
      exact .inr ⟨b, off, rfl, Nat.lt_of_lt_of_le hl hg.size, fun i x hx => hg.cell (hc i x hx) (by intro e; have := hr _ e.symm; have hb2 : b < base := hb; show False; have h3 : base ≤ b := this; omega)⟩
theorem one_R32 (zs : List Int) : ∀ u ∈ zs.map R32, u.oneCell' = true := by
  intro u hu
  obtain ⟨x, _, rfl⟩ := List.mem_map.1 hu
  rfl

set_option maxHeartbeats 400000 in
theorem join_any (ax ay : Addr) (cx cy : Nat) (xs ys : List Int) (w : World) (hx : SlU w (some ax) xs) (hy : SlU w (some ay) ys) (hb : ys = [] ∨ ay.block < w.heap.size) (hl : xs.length + ys.length ≤ 35184372088832) :
    Calls Try.prog 21 #[.slice (some ax) xs.length cx, .slice (some ay) ys.length cy] w fun e w' => ∃ v, e = .returned v ∧ w'.ownsRow w.heap.size 21 1 v (xs.length + ys.length) ((xs ++ ys).map R32) ∧ Below w.heap.size w w' := by
  obtain ⟨i0, hi, hz0, hz1, hz2⟩ := info_parts Try.info32
  have hcx := slu_cells hx
  have HCX := hide hcx
  have HY := hide hy
  have HBB := hide hb
  have ox := one_R32 xs
  have oy := one_R32 ys
  have OX := hide ox
  have OY := hide oy
  have lx : (xs.map R32).length = xs.length * 1 := by simp
  have ly : (ys.map R32).length = ys.length * 1 := by simp
  have LX := hide lx
  have LY := hide ly
  clear hcx hx hy hb ox oy lx ly
  generalize hxs : xs.length = n at *
  generalize hys : ys.length = m at *
  clear hxs hys
  have N1 := hide trivial
  go_enter Try.func21, Try.ntmps21
  go_wp2_with (first | (at_builtin; clear N1; refine wpList_append_own _ rfl _ _ 32 rfl w.heap.size 21 i0 (.int .i32 0) 1 4 Try.underlying32 hi hz0 hz1 hz2 rfl (by omega) (.slice none 0 0) 0 [] rfl (World.ownsRow_nil _ _ _ _) ax n cx (xs.map R32) rfl LX.out HCX.out OX.out (by unfold maxLen; omega) (by omega) (Nat.le_refl _) ?_; intro v1 w1 ho1 hg1 _; have hy1 := slu_grown (base := w.heap.size) HY.out hg1 (fun k e => by cases e) HBB.out; have hs1 := hg1.size) | (at_builtin; refine wpList_append_own _ rfl _ _ 32 rfl w.heap.size 21 i0 (.int .i32 0) 1 4 Try.underlying32 hi hz0 hz1 hz2 rfl (by omega) _ _ _ rfl ho1 ay m cy (ys.map R32) rfl LY.out (slu_cells hy1) OY.out (by unfold maxLen; omega) (by omega) hs1 ?_; intro v2 w2 ho2 hg2 _))
  go_ret
  rw [Nat.zero_add, List.nil_append] at ho2; try rw [List.map_append]
  have hB1 : Below w.heap.size w w1 := (Below.refl _ w).grown hg1 (Nat.le_refl _) (fun k e => by cases e)
  exact ⟨v2, rfl, ho2, hB1.grown hg2 hs1 (fun k e => (ho1.lt k e).1)⟩
end Go.Proofs.Ytfiocfhehofheaa
