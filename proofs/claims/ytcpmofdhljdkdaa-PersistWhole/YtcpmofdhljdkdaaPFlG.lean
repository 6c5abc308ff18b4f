/- Package pmem: Flush, where a loss of power may wait. -/
import Derived.Test.YtcpmofdhljdkdaaPOpG
import Derived.Test.YtcpmofdhljdkdaaPFl
namespace Go.Proofs.Ytcpmofdhljdkdaa
open Go.RowKit Go.Shelf
set_option linter.unusedVariables false

/-- A line is flushed; the operation is not yet counted. -/
def flA (σ : St) (i : Nat) : St := { flushDo σ i with ops := σ.ops }
theorem flA_ok {σ : St} (h : σ.Ok) (i : Nat) (hops : σ.ops < 274877906944) : (flA σ i).Ok :=
  ⟨h.pos, h.max, h.len, h.byte, h.out, h.clen, h.cbyte, h.few, (flush_ok h i hops).flp, h.opsm⟩
section
variable {w : World} {b : Nat} {L : Lay} {σ : St}
set_option maxRecDepth 100000 in
set_option maxHeartbeats 300000 in
theorem pflush_gen (h : DevL w b L σ) (hok : σ.Ok) (ho : σ.off = false) (hfw : Few σ) (at_ : Nat) (hat : at_ < 64 * σ.n) (hops : σ.ops < 274877906944) (hN : L.N ≤ σ.ops) : Calls Try.prog 47 #[.pointer (some ⟨b, 0, none⟩), .int .i64 (at_ : Int)] w fun e w' =>
    ∃ c σ' L', e = .returned (.int .i64 c) ∧ Opd (flA σ (at_ / 64)) c σ' ∧ DevL w' b L' σ' ∧ (∀ k, Foot b L' σ' k → Foot b L σ k ∨ w.heap.size ≤ k) ∧ Gr (Foot b L σ) w w' ∧ L'.N ≤ L.N + 1 ∧ L'.KB = L.KB ∧ (c = 0 → SameL L L') := by
  have hmx := hok.max
  have ks := pstate_any h
  rw [ho] at ks
  simp only [Bool.false_eq_true, if_false] at ks
  have kh := pholds_any h hok.max (at_ : Int) 1 (by omega) (by omega)
  have hb : hasB σ (at_ : Int) 1 = true := by unfold hasB; simp; omega
  rw [hb] at kh
  obtain ⟨i, hi⟩ : ∃ i, i = at_ / 64 := ⟨_, rfl⟩
  have hin : i < σ.n := by omega
  have hiI : (at_ : Int) / 64 = (i : Int) := by omega
  have htd : (at_ : Int).tdiv 64 = (i : Int) := by rw [Int.tdiv_eq_ediv_of_nonneg (by omega)]; omega
  have hwf := wfI (i := i) (by omega)
  have c2 := h.c2
  have c3 := h.c3
  rw [← hi]
  have KS := hide ks
  have KH := hide kh
  have HOLD := hide h.old
  have HFL := hide h.flm
  have HD := hide h
  have HOK := hide hok
  have HT := hide htd
  have atI : (at_ : Int) ≤ 4194304 := by omega
  by_cases hp : σ.past i = []
  · have hof : oldF L σ (i : Int) = none := by unfold oldF; rw [if_neg (fun h => h.2 (by simpa using hp))]
    have HOF := hide hof
    have hfd : flushDo σ i = { σ with ops := σ.ops + 1 } := by
      unfold flushDo
      congr 1
      funext j
      rw [if_neg (fun e => e.2 hp)]
    have hfa : flA σ i = σ := by unfold flA; rw [hfd]
    have ko := poper_gen h (ok_more hok hops) hfw hops
    have KO := hide ko
    rw [hfa]
    clear h hok ks kh hp hof hi hb htd ko hfd hfa hfw
    go_enter Try.func47, Try.ntmps47
    go_wp2_with (first | (go_at_call 40; refine (KS.out).mono ?_; rintro e w' ⟨rfl, hw⟩; obtain rfl := hw.symm) | (go_at_call 48; refine (KH.out).mono ?_; rintro e w' ⟨rfl, hw⟩; obtain rfl := hw.symm) | (at_lookup; refine wpList_look_none rfl (.tmp 24) (.tmp 25) rfl L.ob L.N (oldF L σ) (by kernel_rfl) HOLD.out i (by simp [Act.eval]) hwf HOF.out ?_) | (go_at_call 62; refine (KO.out).mono ?_; rintro e w' ⟨c, σ', L', rfl, hr⟩; have HR := hide hr; clear hr))
    go_ret
    obtain ⟨r1, r2, r3, r4, r5, r6⟩ := HR.out
    exact ⟨c, σ', L', rfl, r1, r2, r3, r4, by omega, r6.1, fun h0 => by rw [r6.2 h0]; exact SameL.refl L⟩
  · have hof : oldF L σ (i : Int) = some (L.pb i) := by unfold oldF; rw [if_pos ⟨by omega, by simpa using hp⟩]; simp
    obtain ⟨n, hn⟩ : ∃ n, n = (σ.past i).length := ⟨_, rfl⟩
    have hp1 := (h.pasts i hp).1
    rw [← hn] at hp1
    have hfew := hok.few i
    have hnf := wfI (i := n) (by omega)
    obtain ⟨e2, q2, hfb⟩ := h.flm.block
    have hfd : flushDo σ i = { ({ σ with fl := fun j => if j = i then some n else σ.fl j } : St) with ops := σ.ops + 1 } := by
      unfold flushDo
      congr 1
      funext j
      show _ = (if j = i then some n else σ.fl j)
      by_cases e : j = i
      · rw [if_pos ⟨e, hp⟩, if_pos e, hn]
      · rw [if_neg (fun h => e h.1), if_neg e]
    have hf : ∀ x, (fun y : Int => if y = (i : Int) then some n else flF σ y) x = flF { σ with fl := fun j => if j = i then some n else σ.fl j } x := fun x => by
      unfold flF
      simp only
      by_cases e : x = (i : Int)
      · subst e; simp
      · rw [if_neg e]
        by_cases h0 : 0 ≤ x
        · rw [if_pos h0, if_pos h0, if_neg (by omega)]
        · rw [if_neg h0, if_neg h0]
    have hfa : flA σ i = { σ with fl := fun j => if j = i then some n else σ.fl j } := by unfold flA; rw [hfd]
    have ko : ∀ W9 : World, w.drew.grownBy W9 (some L.fb) → MapG (plainElem Try.prog 3) numD W9 L.fb (L.N + 1) (fun y => if y = (i : Int) then some n else flF σ y) → Calls Try.prog 62 #[.pointer (some ⟨b, 0, none⟩)] W9 fun e w' => ∃ c σ' L', e = .returned (.int .i64 c) ∧ Opd (flA σ i) c σ' ∧ DevL w' b L' σ' ∧ (∀ k, Foot b L' σ' k → Foot b L σ k ∨ W9.heap.size ≤ k) ∧ Gr (Foot b L σ) W9 w' ∧ L'.N ≤ L.N + 1 ∧ L'.KB = L.KB ∧ (c = 0 → L' = { L with N := L.N + 1 }) := fun W9 hg hm => by
      have hg' : w.grownBy W9 (some L.fb) := ⟨hg.os, hg.tape, hg.output, hg.size, hg.block⟩
      have hd9 := dev_fl h hg' (hm.congr hf)
      rw [← hfa] at hd9
      exact poper_gen hd9 (flush_ok hok i hops) ⟨hfw.one, hfw.cnt⟩ hops
    have s0 : w.drew.cell? ⟨b, 3, none⟩ = some (.map (some L.fb)) ∧ w.drew.cell? ⟨L.pb i, 1, none⟩ = some (.int .i64 (n : Int)) := ⟨h.c3, cell8 hp1 1⟩
    have s9 : ∀ W9 : World, w.drew.grownBy W9 (some L.fb) → W9.cell? ⟨b, 3, none⟩ = some (.map (some L.fb)) ∧ W9.cell? ⟨L.pb i, 1, none⟩ = some (.int .i64 (n : Int)) := fun W9 hg =>
      ⟨cell8 ((hg.block b (lt_of_heap h.dev) (fun e => ne_map h.dev hfb (Option.some.inj e))).trans h.dev) 3, cell8 ((hg.block _ (lt_of_heap hp1) (fun e => ne_map hp1 hfb (Option.some.inj e))).trans hp1) 1⟩
    have hfl2 : MapG (plainElem Try.prog 3) numD w.drew L.fb L.N (flF σ) := h.flm.of_block rfl
    have HFL2 := hide hfl2
    clear hfl2
    have KO := hide ko
    have S9 := hide s9
    have HOF := hide hof
    have hNm : L.N < maxLen := by unfold maxLen; omega
    have HNM := hide hNm
    have HNF := hide hnf
    clear h hok ks kh hp hof hi hb htd ko hfd hfa hfw s9 hp1 hn hfb hf hnf hNm hfew
    go_enter Try.func47, Try.ntmps47
    go_wp2_with (first | (go_at_call 40; refine (KS.out).mono ?_; rintro e w' ⟨rfl, hw⟩; obtain rfl := hw.symm) | (go_at_call 48; refine (KH.out).mono ?_; rintro e w' ⟨rfl, hw⟩; obtain rfl := hw.symm) | (at_lookup; refine wpList_look_some rfl (.tmp 24) (.tmp 25) rfl L.ob L.N (oldF L σ) (by kernel_rfl) HOLD.out i (by simp [Act.eval]) hwf (L.pb i) HOF.out ?_))
    refine wp_region_held_drew (S := fun X => X.cell? ⟨b, 3, none⟩ = some (.map (some L.fb)) ∧ X.cell? ⟨L.pb i, 1, none⟩ = some (.int .i64 (n : Int))) (by kernel_rfl) s0 (fun hS => ?_)
    refine wpAnyH_take (i := 0) (v := (.pointer (some ⟨b, 0, none⟩))) rfl (by kernel_rfl) (by kernel_rfl) (by kernel_rfl) (fun _ _ _ h => h) (Or.inl ⟨by kernel_rfl, fun w' hw => by (go_simp)⟩) hS ?_
    refine wpAnyH_take (i := 1) (v := (.pointer (some ⟨b, 0, none⟩))) rfl (by kernel_rfl) (by kernel_rfl) (by kernel_rfl) (fun _ _ _ h => h) (Or.inl ⟨by kernel_rfl, fun w' hw => by (go_simp)⟩) hS ?_
    refine wpAnyH_take (i := 2) (v := (.pointer (some ⟨b, 3, none⟩))) rfl (by kernel_rfl) (by kernel_rfl) (by kernel_rfl) (fun _ _ _ h => h) (Or.inl ⟨by kernel_rfl, fun w' hw => by (go_simp)⟩) hS ?_
    refine wpAnyH_take (i := 3) (v := (.map (some L.fb))) rfl (by kernel_rfl) (by kernel_rfl) (by kernel_rfl) (fun _ _ _ h => h) (Or.inl ⟨by kernel_rfl, fun w' hw => by (obtain ⟨z0, z1⟩ := hw; go_simp)⟩) hS ?_
    refine wpAnyH_take (i := 4) (v := (.int .i64 (i : Int))) rfl (by kernel_rfl) (by kernel_rfl) (by kernel_rfl) (fun _ _ _ h => h) (Or.inl ⟨by kernel_rfl, fun w' hw => by (go_simp)⟩) hS ?_
    refine wpAnyH_take (i := 5) (v := (.pointer (some ⟨L.pb i, 0, none⟩))) rfl (by kernel_rfl) (by kernel_rfl) (by kernel_rfl) (fun _ _ _ h => h) (Or.inl ⟨by kernel_rfl, fun w' hw => by (go_simp)⟩) hS ?_
    refine wpAnyH_take (i := 6) (v := (.pointer (some ⟨L.pb i, 0, none⟩))) rfl (by kernel_rfl) (by kernel_rfl) (by kernel_rfl) (fun _ _ _ h => h) (Or.inl ⟨by kernel_rfl, fun w' hw => by (go_simp)⟩) hS ?_
    refine wpAnyH_take (i := 7) (v := (.pointer (some ⟨L.pb i, 1, none⟩))) rfl (by kernel_rfl) (by kernel_rfl) (by kernel_rfl) (fun _ _ _ h => h) (Or.inl ⟨by kernel_rfl, fun w' hw => by (go_simp)⟩) hS ?_
    refine wpAnyH_take (i := 8) (v := (.int .i64 (n : Int))) rfl (by kernel_rfl) (by kernel_rfl) (by kernel_rfl) (fun _ _ _ h => h) (Or.inl ⟨by kernel_rfl, fun w' hw => by (obtain ⟨z0, z1⟩ := hw; go_simp)⟩) hS ?_
    refine wpAnyH_put_num (z := 9) (.tmp 33) (.tmp 34) (.tmp 38) L.fb L.N (flF σ) i n (by kernel_rfl) rfl (by kernel_rfl) (by kernel_rfl) (by kernel_rfl) (by kernel_rfl) (by kernel_rfl) (by kernel_rfl) HFL2.out HNM.out hwf HNF.out (fun W9 hm9 hg9 => ⟨S9.out W9 hg9, ?_⟩)
    have K9 := hide (KO.out W9 hg9 hm9)
    have HG9 := hide hg9
    clear hg9 hm9
    simp only [Act.put, List.getElem_toArray, List.getElem_cons_zero, List.getElem_cons_succ, List.setIfInBounds_toArray, List.set_cons_zero, List.set_cons_succ]
    go_wp2_with (go_at_call 62; refine (K9.out).mono ?_; rintro e w' ⟨c, σ', L', rfl, hr⟩; have HR := hide hr; clear hr)
    go_ret
    obtain ⟨r1, r2, r3, r4, r5⟩ := HR.out
    have hg : w.grownBy W9 (some L.fb) := ⟨HG9.out.os, HG9.out.tape, HG9.out.output, HG9.out.size, HG9.out.block⟩
    exact ⟨c, σ', L', rfl, r1, r2, fun k hk => (r3 k hk).imp id (fun h => Nat.le_trans hg.size h), (Gr.of_grown (w := w) (X := Foot b L σ) hg (fun k hk => .inl (by cases hk; exact .inr (.inr (.inr (.inl rfl)))))).trans r4 (fun k h => .inl h), r5.1, r5.2.1, fun h0 => by rw [r5.2.2 h0]; exact ⟨rfl, rfl, rfl, rfl, rfl⟩⟩
end
end Go.Proofs.Ytcpmofdhljdkdaa
