/- What the iterators of bits.Lines and bits.Words tell, to a loop that changes memory. -/
import Derived.Test.YtgfgihpkbbjkfaaPSeq
namespace Go.Proofs.Ytgfgihpkbbjkfaa
open Go.RowKit Go.Shelf
set_option linter.unusedVariables false
attribute [local go_sem] Oper.semAt_some

/-- How many words have been told when so many lines are over. -/
def told (fw lw l0 : Int) (j : Nat) : Nat := if j = 0 then 0 else (min ((l0 + j) * 8) (lw + 1) - fw).toNat

theorem prefix_upto {a : Int} {N : Nat} {pre : List Int} {x : Int} (h : pre ++ [x] <+: upto a N) : pre.length < N ∧ x = a + pre.length := by
  have hl := h.length_le
  rw [upto_length] at hl
  simp at hl
  have h2 := List.prefix_iff_eq_take.1 h
  have h3 : (pre ++ [x])[pre.length]? = some x := by simp
  rw [h2, List.getElem?_take] at h3
  simp only [List.length_append, List.length_singleton] at h3
  rw [if_pos (by omega)] at h3
  have h4 : (upto a N)[pre.length]? = some (a + pre.length) := by
    unfold upto
    rw [List.getElem?_map, List.getElem?_range (by omega)]
    rfl
  rw [h4] at h3
  exact ⟨by omega, (Option.some.inj h3).symm⟩

theorem told_all (a m : Int) : upto (a / 8) (told (a / 8) ((a + m - 1) / 8) (a / 64) (unitsV 64 a m).length) = unitsV 8 a m := by
  unfold unitsV
  by_cases h : a < 0 ∨ m < 1 ∨ 9223372036854775807 - a < m
  · rw [if_pos h, if_pos h]; rfl
  · rw [if_neg h, if_neg h, upto_length]
    congr 1
    unfold told
    rw [if_neg (by omega)]
    omega

def encI (x : Int) : Array Value := #[.int .i64 x]
theorem below_boxedP {W W' : World} {b : Nat} {t : TypeId} {v : Value} (h : Below W.heap.size W W') (hb : Boxed W b t v) : Boxed W' b t v :=
  (h.block b (Array.getElem?_eq_some_iff.1 (show W.heap[b]? = _ from hb)).1).trans hb
theorem lines_x (H : TypeId → Prop) (N : Nat → Prop) (Ba Bn : Nat) (a m : Int) (w : World) (hBa : Ba < w.heap.size) (hBn : Bn < w.heap.size)
    (ca : w.cell? ⟨Ba, 0, none⟩ = some (.int .i64 a)) (cn : w.cell? ⟨Bn, 0, none⟩ = some (.int .i64 m)) (hb1 : -9223372036854775808 ≤ a) (hb2 : a ≤ 9223372036854775807) :
    SeqX H N 81 #[.pointer (some ⟨Ba, 0, none⟩), .pointer (some ⟨Bn, 0, none⟩)] encI (unitsV 64 a m) w := fun l J Jx W hW _ _ hY h0 => by
  have ca' := (hW.cell (p := ⟨Ba, 0, none⟩) hBa).trans ca
  have cn' := (hW.cell (p := ⟨Bn, 0, none⟩) hBn).trans cn
  by_cases hb : a < 0 ∨ m < 1 ∨ 9223372036854775807 - a < m
  · refine (lines1_none Fence.wide 2 trivial rfl l Ba Bn a m (J []) W ca' cn' h0 hb1 hb2 hb).mono ?_
    rintro e W' ⟨he, hJ⟩
    refine ⟨he, .inl ?_⟩
    unfold unitsV
    rw [if_pos hb]
    exact hJ
  · refine (lines1_in Fence.wide 2 trivial rfl (by omega) l Ba Bn a m J Jx (fun pre x W1 h1 _ h3 => (hY pre x W1 h1 h3).mono fun e W' h => by rcases h with h | h; exact .inl ⟨h.1, h.2.1⟩; exact .inr ⟨h.1, h.2.1⟩) W ca' cn' h0 (by omega) (by omega) (by omega)).mono ?_
    rintro e W' ⟨he, h⟩
    refine ⟨he, ?_⟩
    rcases h with ⟨ys, rfl, hJ⟩ | h
    · exact .inl hJ
    · exact .inr h
set_option maxRecDepth 100000 in
set_option maxHeartbeats 2000000 in
theorem words_x (H : TypeId → Prop) (N : Nat → Prop) (Ba Bn : Nat) (a m : Int) (w : World) (hN : ∀ k, N k → k < w.heap.size) (hBaN : N Ba) (hBnN : N Bn) (hHf : ¬ H 126)
    (ca : w.cell? ⟨Ba, 0, none⟩ = some (.int .i64 a)) (cn : w.cell? ⟨Bn, 0, none⟩ = some (.int .i64 m)) (hb1 : -9223372036854775808 ≤ a) (hb2 : a ≤ 9223372036854775807) :
    SeqX H N 68 #[.pointer (some ⟨Ba, 0, none⟩), .pointer (some ⟨Bn, 0, none⟩)] encI (unitsV 8 a m) w := fun l J Jx W hW hJ hJx hY h0 => by
  have hBa := hN _ hBaN
  have hBn := hN _ hBnN
  have ca' := (hW.cell (p := ⟨Ba, 0, none⟩) (by show Ba < _; omega)).trans ca
  have cn' := (hW.cell (p := ⟨Bn, 0, none⟩) (by show Bn < _; omega)).trans cn
  have hsW := hW.size
  have hA : Below W.heap.size W (W.alloc (.cells #[.func (.yield l) #[] #[]] 126)) := (Below.refl _ _).alloc (Nat.le_refl _) _
  have ca2 := (hA.cell (p := ⟨Ba, 0, none⟩) (by show Ba < _; omega)).trans ca'
  have cn2 := (hA.cell (p := ⟨Bn, 0, none⟩) (by show Bn < _; omega)).trans cn'
  refine callsIn_wide.2 ((callsIn_wide (n := 3)).1 ?_)
  refine callsIn_of_wp_marks Try.func68 rfl trivial ?_ rfl
  simp only [Try.ntmps68, List.size_toArray, List.length_cons, List.length_nil, Nat.reduceAdd, Nat.reduceSub, Array.replicate_succ, Array.replicate_zero, List.push_toArray, List.append_toArray, List.nil_append, List.cons_append]
  gi_wp2_with (refine ⟨trivial, ?_⟩; gi_at_call 65; refine (lines_in Fence.wide 2 trivial rfl _ _ _).mono ?_; rintro e w' ⟨rfl, rfl⟩)
  have bY := ((Boxed.new W 126 (.func (.yield l) #[] #[])).alloc (.cells #[.int .i64 a] 3)).alloc (.cells #[.int .i64 m] 3)
  have bA := (Boxed.new (W.alloc (.cells #[.func (.yield l) #[] #[]] 126)) 3 (.int .i64 a)).alloc (.cells #[.int .i64 m] 3)
  have bN := Boxed.new ((W.alloc (.cells #[.func (.yield l) #[] #[]] 126)).alloc (.cells #[.int .i64 a] 3)) 3 (.int .i64 m)
  simp only [World.size_alloc] at bA bN
  have hB0 : Below W.heap.size W (((W.alloc (.cells #[.func (.yield l) #[] #[]] 126)).alloc (.cells #[.int .i64 a] 3)).alloc (.cells #[.int .i64 m] 3)) := (((Below.refl _ W).alloc (Nat.le_refl _) _).alloc (by simp) _).alloc (by simp; omega) _
  have hsz : (((W.alloc (.cells #[.func (.yield l) #[] #[]] 126)).alloc (.cells #[.int .i64 a] 3)).alloc (.cells #[.int .i64 m] 3)).heap.size = W.heap.size + 3 := by simp
  have hJ0 : J [] (((W.alloc (.cells #[.func (.yield l) #[] #[]] 126)).alloc (.cells #[.int .i64 a] 3)).alloc (.cells #[.int .i64 m] 3)) := hJ.alloc _ (hJ.alloc _ (hJ.alloc _ h0))
  obtain ⟨W0, hW0⟩ : ∃ W0, ((W.alloc (.cells #[.func (.yield l) #[] #[]] 126)).alloc (.cells #[.int .i64 a] 3)).alloc (.cells #[.int .i64 m] 3) = W0 := ⟨_, rfl⟩
  rw [hW0] at bY bA bN hB0 hsz hJ0 ⊢
  clear hW0 ca2 cn2 hA
  have ca3 := (hB0.cell (p := ⟨Ba, 0, none⟩) (by show Ba < _; omega)).trans ca'
  have cn3 := (hB0.cell (p := ⟨Bn, 0, none⟩) (by show Bn < _; omega)).trans cn'
  apply rangeX (gf := 81) (lb := #[.pointer (some ⟨W.heap.size + 1, 0, none⟩), .pointer (some ⟨W.heap.size + 1 + 1, 0, none⟩)]) (encs := encI) rfl (enters_of Try.func81 (by kernel_rfl) rfl)
    (lines_x H N (W.heap.size + 1) (W.heap.size + 1 + 1) a m W0 (by omega) (by omega) bA.cell bN.cell hb1 hb2) (Below.refl _ _) (fun k h => by have := hN k h; omega) (fun _ => rfl)
    (fun pre W' => (J (upto (a / 8) (told (a / 8) ((a + m - 1) / 8) (a / 64) pre.length)) W' ∧ Boxed W' W.heap.size 126 (.func (.yield l) #[] #[])) ∧ (W'.cell? ⟨Ba, 0, none⟩ = some (.int .i64 a) ∧ W'.cell? ⟨Bn, 0, none⟩ = some (.int .i64 m)))
    (fun c pre W' => c = .ret ∧ ∃ p, p <+: unitsV 8 a m ∧ Jx p W')
    (Stab.and (Stab.and ((hJ.up (by omega)).comp _) (Stab.box _ _ (by omega))) (Stab.and (Stab.cell _ (by omega)) (Stab.cell _ (by omega))))
    (fun c => Stab.and (Stab.pure _) (fun s A B hs hg => by obtain ⟨p, hp, hx⟩ := hs; exact ⟨p, hp, hJx.up (show W.heap.size ≤ W0.heap.size by omega) p A B hx hg⟩))
    ⟨⟨hJ0, bY⟩, ca3, cn3⟩
  case hassign =>
    intro l' x W' K hK
    simp only [encI]
    gi_wp2
    exact hK
  case hbody =>
    rintro l' pre x W' ⟨⟨hJ', hbY⟩, hcA, hcN⟩ hpx
    have hgood : ¬ (a < 0 ∨ m < 1 ∨ 9223372036854775807 - a < m) := fun h => by
      unfold unitsV at hpx
      rw [if_pos h] at hpx
      have := hpx.length_le
      simp at this
    have hlines : unitsV 64 a m = upto (a / 64) ((a + m - 1) / 64 - a / 64 + 1).toNat := by unfold unitsV; rw [if_neg hgood]
    have hwords : unitsV 8 a m = upto (a / 8) ((a + m - 1) / 8 - a / 8 + 1).toNat := by unfold unitsV; rw [if_neg hgood]
    rw [hlines] at hpx
    obtain ⟨hj, hx⟩ := prefix_upto hpx
    have g1 : 0 ≤ a := by omega
    have g2 : 1 ≤ m := by omega
    have g3 : m ≤ 9223372036854775807 - a := by omega
    have hx0 : 0 ≤ x := by omega
    have hx1 : x ≤ 144115188075855871 := by omega
    obtain ⟨f1, hf1⟩ : ∃ f1, told (a / 8) ((a + m - 1) / 8) (a / 64) pre.length = f1 := ⟨_, rfl⟩
    obtain ⟨f2, hf2⟩ : ∃ f2, told (a / 8) ((a + m - 1) / 8) (a / 64) (pre.length + 1) = f2 := ⟨_, rfl⟩
    have hfirst : max (a / 8) (x * 8) = a / 8 + f1 := by
      rw [← hf1]; unfold told; split <;> omega
    have hlast : min ((a + m - 1) / 8) (x * 8 + 8 - 1) = a / 8 + f2 - 1 := by
      rw [← hf2]; unfold told; rw [if_neg (by omega)]; omega
    have h12 : f1 ≤ f2 := by
      rw [← hf1, ← hf2]; unfold told; rw [if_neg (show ¬ pre.length + 1 = 0 by omega)]; split <;> omega
    have hbnd : a / 8 + (f2 : Int) ≤ (a + m - 1) / 8 + 1 := by
      rw [← hf2]; unfold told; rw [if_neg (by omega)]; omega
    have HJ' : Hid (J (upto (a / 8) f1) W') := by rw [← hf1]; exact hJ'
    have hcY := hbY.cell
    have HL := hide hlines
    have HW := hide hwords
    have HPX := hide hpx
    have HF2 := hide hf2
    have HXX := hide hx
    have HFI := hide hfirst
    have HLA := hide hlast
    have HCA := hide hcA
    have HCN := hide hcN
    clear hJ' hlines hwords hpx hf1 hf2 hx hgood hj hfirst hlast
    have HY := hide hY
    clear hY hcA hcN hcY
    have hcA := HCA.out
    have hcN := HCN.out
    gi_wp2
    all_goals
      clear hcA hcN
      gi_loopw [7] (fun i wr => ∃ k : Nat, i = .int .i64 (a / 8 + k) ∧ f1 ≤ k ∧ k ≤ f2 ∧ J (upto (a / 8) k) wr ∧ Boxed wr W.heap.size 126 (.func (.yield l) #[] #[]) ∧ wr.cell? ⟨Ba, 0, none⟩ = some (.int .i64 a) ∧ wr.cell? ⟨Bn, 0, none⟩ = some (.int .i64 m) ∧ Kp H N W0.heap.size W' wr) (fun i _ => (a / 8 + f2 - intOf i).toNat)
      case atStart => exact ⟨f1, int_congr0 (by have := HFI.out; omega), Nat.le_refl _, h12, HJ'.out, hbY, HCA.out, HCN.out, Kp.refl _ _ _ _⟩
      case round =>
        obtain ⟨k, rfl, hk1, hk2, hJk, hbk, hcAk, hcNk, hKk⟩ := hrel
        by_cases hlt : k < f2
        · have t1 : a / 8 + (k : Int) ≤ (a + m - 1) / 8 := by have := HLA.out; omega
          have t2 : a / 8 + (k : Int) ≤ x * 8 + 8 - 1 := by have := HLA.out; omega
          obtain ⟨fn, tmps, assign, body, hy, hR⟩ := yield_any (1 - 1) l' (HY.out (upto (a / 8) k) (a / 8 + k) wr hJk (by rw [HW.out, ← upto_succ]; exact upto_prefix _ _ _ (by omega)))
          simp only [encI] at hy
          have hcYk := hbk.cell
          have HJk := hide hJk
          have HBK := hide hbk
          have HK := hide hKk
          have HCAK := hide hcAk
          have HCNK := hide hcNk
          clear hJk hbk hKk hcAk hcNk
          gi_wp2
          refine hR.mono ?_
          rintro e W3 (⟨rfl, hJ3, hK3⟩ | ⟨rfl, hJx3, hK3⟩)
          · have HJ3 := hide hJ3
            have HK3 := hide hK3
            clear hJ3 hK3 hR hy hcYk
            gi_wp2
            go_roundw
            case rel => exact ⟨k + 1, int_congr0 (by omega), by omega, by omega, by rw [upto_succ]; exact HJ3.out, HK3.out.boxed (Nat.le_refl _) hHf HBK.out, HK3.out.cell hBaN HCAK.out, HK3.out.cell hBnN HCNK.out, HK.out.trans (HK3.out.up (by omega))⟩
            case measure => simp [intOf]; omega
          · have HJ3 := hide hJx3
            have HK3 := hide hK3
            clear hJx3 hK3 hR hy hcYk
            gi_wp2
            exact ⟨HK.out.trans (HK3.out.up (by omega)), rfl, _, by rw [HW.out, ← upto_succ]; exact upto_prefix _ _ _ (by omega), HJ3.out⟩
        · have hkf : k = f2 := by omega
          have hout : (a + m - 1) / 8 < a / 8 + (k : Int) ∨ x * 8 + 8 - 1 < a / 8 + (k : Int) := by have := HLA.out; omega
          have HKF := hide hkf
          have HJk := hide hJk
          have HBK := hide hbk
          have HK := hide hKk
          have HCAK := hide hcAk
          have HCNK := hide hcNk
          clear hJk hbk hKk hcAk hcNk hkf
          first
            | have t1 : (a + m - 1) / 8 < a / 8 + (k : Int) := by (have := HLA.out; have := HKF.out; omega)
            | have t2 : x * 8 + 8 - 1 < a / 8 + (k : Int) := by (have := HLA.out; have := HKF.out; omega)
          clear hout
          gi_wp2
          refine ⟨HK.out, ⟨?_, HBK.out⟩, HCAK.out, HCNK.out⟩
          rw [List.length_append, List.length_singleton, HF2.out, ← HKF.out]
          exact HJk.out
  case hdone =>
    rintro D W2 hD ⟨⟨hJ2, _⟩, _⟩ hK
    rw [told_all] at hJ2
    have hJ3 : J (unitsV 8 a m) (W2.putObj D (.deferred none)) := hJ.put _ hJ2 (by omega) hK rfl
    have HJ3 := hide hJ3
    clear hJ2 hJ3 hY
    gi_wp2
    refine ⟨by simp, .inl ⟨_, _, rfl, run_takeDeferred hK, ?_⟩⟩
    exact ⟨_, results_none rfl _ _ _, ⟨_, rfl⟩, .inl HJ3.out⟩
  case hstop =>
    rintro D c pre W2 hD _ ⟨rfl, p, hp, hJ2⟩ hK
    have hJ3 : Jx p (W2.putObj D (.deferred none)) := hJx.put _ hJ2 (by omega) hK rfl
    have HJ3 := hide hJ3
    clear hJ2 hJ3 hY
    gi_wp2
    refine ⟨by simp, .inl ⟨_, _, rfl, run_takeDeferred hK, ?_⟩⟩
    exact ⟨_, results_none rfl _ _ _, ⟨_, rfl⟩, .inr ⟨p, hp, HJ3.out⟩⟩

theorem words_in (a m : Int) (w : World) :
    Calls Try.prog 47 #[.int .i64 a, .int .i64 m] w fun e w' => e = .returned (.func (.func 68) #[] #[.pointer (some ⟨w.heap.size, 0, none⟩), .pointer (some ⟨w.heap.size + 1, 0, none⟩)]) ∧
      w' = (w.alloc (.cells #[.int .i64 a] 3)).alloc (.cells #[.int .i64 m] 3) := by
  go_enter Try.func47, Try.ntmps47
  go_wp2
  go_ret
  exact ⟨rfl, rfl⟩

end Go.Proofs.Ytgfgihpkbbjkfaa
