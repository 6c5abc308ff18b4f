/- Package pmem: a line is flushed. -/
import Derived.Test.YtgfgihpkbbjkfaaPDrq
namespace Go.Proofs.Ytgfgihpkbbjkfaa
open Go.RowKit Go.Shelf
set_option linter.unusedVariables false

/-- 'm[i] = n', at the operation. -/
theorem wp_put_num {o : Oper} {a : Act} {w : World} {K : Act → World → Prop} {Q : Exit → Act → World → Prop} (m x v : Operand) (hop : o.op = Op.mapUpdate 67 m x v) (b N : Nat) (f : Int → Option Nat) (hm : a.eval m = .map (some b)) (h : MapG (plainElem Try.prog 3) numD w b N f) (hN : N < maxLen)
    (i : Int) (hx : a.eval x = .int .i64 i) (hi : (Lit.int .i64 i).wf = true) (p : Nat) (hp : (Lit.int .i64 (p : Int)).wf = true) (hv : a.eval v = .int .i64 (p : Int))
    (hK : ∀ w', MapG (plainElem Try.prog 3) numD w' b (N + 1) (fun y => if y = i then some p else f y) → w.grownBy w' (some b) → K (a.put o.dst undef) w') : o.wp Try.prog a w K Q := by
  obtain ⟨n, D, hn, ho, hk⟩ := h
  obtain ⟨w', hrun, r1, r2⟩ := ho.update keyedI Try.underlying67 (by omega : n < maxLen) (Maps.keyOf_int_mk Try.underlying3 hi) (plainElem_int Try.underlying3 hp)
  unfold Oper.wp
  simp [execOp, hop, hm, hx, hv, hrun, Result.andThen]
  exact hK w' ⟨n + 1, _, by omega, r1, put_keys ho.isMap hk i p⟩ r2
theorem wpAnyH_put_num {ops : Array Oper} {Q : Exit → Act → World → Prop} {md : Region.Mode} {S : World → Prop} {z : Nat} {o : Oper} {fuel : Nat} {listed : Array Bool} {a : Act} {w : World} (m x v : Operand) (b N : Nat) (f : Int → Option Nat) (i : Int) (p : Nat)
    (hr : Region.ready md ops listed = [z]) (ho : ops[z]? = some o) (hw : Region.wanted o (yielded ops a.tmps) = true) (hr' : Region.ready md ops (listed.setIfInBounds z true) = []) (hop : o.op = Op.mapUpdate 67 m x v) (hm : a.eval m = .map (some b)) (hx : a.eval x = .int .i64 i) (hv : a.eval v = .int .i64 (p : Int))
    (h : MapG (plainElem Try.prog 3) numD w b N f) (hN : N < maxLen) (hi : (Lit.int .i64 i).wf = true) (hp : (Lit.int .i64 (p : Int)).wf = true)
    (hK : ∀ w', MapG (plainElem Try.prog 3) numD w' b (N + 1) (fun y => if y = i then some p else f y) → w.grownBy w' (some b) → S w' ∧ Q .normal (a.put o.dst undef) w') : wpAnyH Try.prog md ops Q S (fuel + 1) listed a w :=
  wpAnyH_op hr ho hw hr' (wp_put_num m x v hop b N f hm h hN i hx hi p hp hv hK)
/-- What a Flush makes of a device. -/
def flushDo (σ : St) (i : Nat) : St := { σ with fl := fun j => if j = i ∧ σ.past i ≠ [] then some (σ.past i).length else σ.fl j, ops := σ.ops + 1 }
theorem flush_ok {σ : St} (h : σ.Ok) (i : Nat) (hops : σ.ops < 1400000000000) : (flushDo σ i).Ok := by
  refine ⟨h.pos, h.max, h.len, h.byte, h.out, h.clen, h.cbyte, fun j => ?_, fun j k hk => ?_, ?_⟩
  · have := h.few j
    show (σ.past j).length ≤ σ.ops + 1
    omega
  · have hk' : (if j = i ∧ σ.past i ≠ [] then some (σ.past i).length else σ.fl j) = some k := hk
    split at hk'
    · rename_i e
      obtain ⟨rfl, e2⟩ := e
      cases hk'
      exact ⟨Nat.le_refl _, e2⟩
    · exact h.flp j k hk'
  · show σ.ops + 1 ≤ _
    omega
theorem dev_fl {w w' : World} {b : Nat} {L : Lay} {σ : St} {f : Nat → Option Nat} (h : DevL w b L σ) (hg : w.grownBy w' (some L.fb)) (hm : MapG (plainElem Try.prog 3) numD w' L.fb (L.N + 1) (flF { σ with fl := f })) : DevL w' b { L with N := L.N + 1 } { σ with fl := f } := by
  obtain ⟨e2, q2, hfb⟩ := h.flm.block
  obtain ⟨e1, q1, hob⟩ := h.old.block
  have kc : ∀ (k : Nat) (c : Array Value) (t : TypeId) (fr : Nat × Nat), w.heap[k]? = some (.cells c t fr) → w'.heap[k]? = w.heap[k]? := fun k c t fr hk => hg.block k (lt_of_heap hk) (fun e => ne_map hk hfb (Option.some.inj e))
  refine ⟨(kc _ _ _ _ h.dev).trans h.dev, (kc _ _ _ _ h.seen).trans h.seen, (h.old.of_block (hg.block _ (lt_of_heap hob) (fun e => h.mne (Option.some.inj e)))).mono (Nat.le_succ _), hm, fun i hi => (h.pasts i hi).keep (kc _ _ _ _ (h.pasts i hi).1) (fun g hg' => ?_), h.pne, h.rne, h.mne, h.arms.keep (fun g hg' => ?_) (fun g hg' => ?_), fun k hk => ?_⟩
  · obtain ⟨c, hc⟩ := (h.pasts i hi).row hg'
    exact kc _ _ _ _ hc
  · obtain ⟨c, hc⟩ := h.av_row hg'
    exact kc _ _ _ _ hc
  · obtain ⟨c, hc⟩ := h.kbt g hg'
    exact kc _ _ _ _ hc
  · obtain ⟨c, hc⟩ := h.kbt k hk
    exact ⟨c, (kc _ _ _ _ hc).trans hc⟩
section
variable {w : World} {b : Nat} {L : Lay} {σ : St}
theorem pflush_off (h : DevL w b L σ) (ho : σ.off = true) (a : Int) : Calls Try.prog 40 #[.pointer (some ⟨b, 0, none⟩), .int .i64 a] w fun e w' => e = .returned (.int .i64 5) ∧ w' = w := by
  have ks := pstate_any h
  rw [ho] at ks
  simp only [if_true] at ks
  have KS := hide ks
  clear h ks
  go_enter Try.func40, Try.ntmps40
  go_wp2_with (go_at_call 37; refine (KS.out).mono ?_; rintro e w' ⟨rfl, rfl⟩)
  go_ret
  exact ⟨rfl, rfl⟩
theorem pflush_out (h : DevL w b L σ) (hok : σ.Ok) (ho : σ.off = false) (a : Int) (ha : -9223372036854775808 ≤ a) (ha' : a ≤ 9223372036854775807) (hb : hasB σ a 1 = false) : Calls Try.prog 40 #[.pointer (some ⟨b, 0, none⟩), .int .i64 a] w fun e w' => e = .returned (.int .i64 6) ∧ w' = w := by
  have ks := pstate_any h
  rw [ho] at ks
  simp only [Bool.false_eq_true, if_false] at ks
  have kh := pholds_any h hok.max a 1 ha ha'
  rw [hb] at kh
  have KS := hide ks
  have KH := hide kh
  clear h ks kh
  go_enter Try.func40, Try.ntmps40
  go_wp2_with (first | (go_at_call 37; refine (KS.out).mono ?_; rintro e w' ⟨rfl, hw⟩; obtain rfl := hw.symm) | (go_at_call 45; refine (KH.out).mono ?_; rintro e w' ⟨rfl, hw⟩; obtain rfl := hw.symm))
  go_ret
  exact ⟨rfl, rfl⟩
set_option maxRecDepth 100000 in
set_option maxHeartbeats 300000 in
theorem pflush_any (h : DevL w b L σ) (hok : σ.Ok) (ho : σ.off = false) (harm : σ.arms = []) (at_ : Nat) (hat : at_ < 64 * σ.n) (hops : σ.ops < 1400000000000) (hN : L.N ≤ σ.ops) : Calls Try.prog 40 #[.pointer (some ⟨b, 0, none⟩), .int .i64 (at_ : Int)] w fun e w' =>
    e = .returned (.int .i64 0) ∧ ∃ L', DevL w' b L' (flushDo σ (at_ / 64)) ∧ (∀ k, Foot b L' (flushDo σ (at_ / 64)) k → Foot b L σ k) ∧ Gr (Foot b L σ) w w' ∧ L'.N ≤ L.N + 1 ∧ SameL L L' := by
  have hmx := hok.max
  have ks := pstate_any h
  rw [ho] at ks
  simp only [Bool.false_eq_true, if_false] at ks
  have kh := pholds_any h hok.max (at_ : Int) 1 (by omega) (by omega)
  have hb : hasB σ (at_ : Int) 1 = true := by unfold hasB; simp; omega
  rw [hb] at kh
  obtain ⟨i, hi⟩ : ∃ i, i = at_ / 64 := ⟨_, rfl⟩
  have hin : i < σ.n := by omega
  have hiI : (at_ : Int) / 64 = (i : Int) := by omega
  have htd : (at_ : Int).tdiv 64 = (i : Int) := by rw [Int.tdiv_eq_ediv_of_nonneg (by omega)]; omega
  have hwf := wfI (i := i) (by omega)
  have c2 := h.c2
  have c3 := h.c3
  rw [← hi]
  have KS := hide ks
  have KH := hide kh
  have HOLD := hide h.old
  have HFL := hide h.flm
  have HD := hide h
  have HOK := hide hok
  have HT := hide htd
  have atI : (at_ : Int) ≤ 4194304 := by omega
  by_cases hp : σ.past i = []
  · have hof : oldF L σ (i : Int) = none := by unfold oldF; rw [if_neg (fun h => h.2 (by simpa using hp))]
    have HOF := hide hof
    have hfd : flushDo σ i = { σ with ops := σ.ops + 1 } := by
      unfold flushDo
      congr 1
      funext j
      rw [if_neg (fun e => e.2 hp)]
    have ko := poper_any h hops harm
    have KO := hide ko
    rw [hfd]
    clear h hok ks kh hp hof hi hb htd ko hfd
    go_enter Try.func40, Try.ntmps40
    go_wp2_with (first | (go_at_call 37; refine (KS.out).mono ?_; rintro e w' ⟨rfl, hw⟩; obtain rfl := hw.symm) | (go_at_call 45; refine (KH.out).mono ?_; rintro e w' ⟨rfl, hw⟩; obtain rfl := hw.symm) | (at_lookup; refine wpList_look_none rfl (.tmp 24) (.tmp 25) rfl L.ob L.N (oldF L σ) (by kernel_rfl) HOLD.out i (by simp [Act.eval]) hwf HOF.out ?_) | (go_at_call 62; refine (KO.out).mono ?_; rintro e w' ⟨rfl, hw, hd⟩; have HW := hide hw; have HDD := hide hd; clear hw hd))
    go_ret
    refine ⟨rfl, L, HDD.out, fun k hk => hk, ?_, by omega, SameL.refl L⟩
    rw [HW.out]
    exact Gr.set w b 4 _ (.inl rfl)
  · have hof : oldF L σ (i : Int) = some (L.pb i) := by unfold oldF; rw [if_pos ⟨by omega, by simpa using hp⟩]; simp
    obtain ⟨n, hn⟩ : ∃ n, n = (σ.past i).length := ⟨_, rfl⟩
    have hp1 := (h.pasts i hp).1
    rw [← hn] at hp1
    have hfew := hok.few i
    have hnf := wfI (i := n) (by omega)
    obtain ⟨e2, q2, hfb⟩ := h.flm.block
    have hfd : flushDo σ i = { ({ σ with fl := fun j => if j = i then some n else σ.fl j } : St) with ops := σ.ops + 1 } := by
      unfold flushDo
      congr 1
      funext j
      show _ = (if j = i then some n else σ.fl j)
      by_cases e : j = i
      · rw [if_pos ⟨e, hp⟩, if_pos e, hn]
      · rw [if_neg (fun h => e h.1), if_neg e]
    have hf : ∀ x, (fun y : Int => if y = (i : Int) then some n else flF σ y) x = flF { σ with fl := fun j => if j = i then some n else σ.fl j } x := fun x => by
      unfold flF
      simp only
      by_cases e : x = (i : Int)
      · subst e; simp
      · rw [if_neg e]
        by_cases h0 : 0 ≤ x
        · rw [if_pos h0, if_pos h0, if_neg (by omega)]
        · rw [if_neg h0, if_neg h0]
    have ko : ∀ W9 : World, w.drew.grownBy W9 (some L.fb) → MapG (plainElem Try.prog 3) numD W9 L.fb (L.N + 1) (fun y => if y = (i : Int) then some n else flF σ y) → Calls Try.prog 62 #[.pointer (some ⟨b, 0, none⟩)] W9 fun e w' => e = .returned (.int .i64 0) ∧ w' = W9.setCell ⟨b, 4, none⟩ (.int .i64 ((σ.ops + 1 : Nat) : Int)) ∧ DevL w' b { L with N := L.N + 1 } (flushDo σ i) := fun W9 hg hm => by
      rw [hfd]
      have hg' : w.grownBy W9 (some L.fb) := ⟨hg.os, hg.tape, hg.output, hg.size, hg.block⟩
      exact poper_any (dev_fl h hg' (hm.congr hf)) hops harm
    have s0 : w.drew.cell? ⟨b, 3, none⟩ = some (.map (some L.fb)) ∧ w.drew.cell? ⟨L.pb i, 1, none⟩ = some (.int .i64 (n : Int)) := ⟨h.c3, cell8 hp1 1⟩
    have s9 : ∀ W9 : World, w.drew.grownBy W9 (some L.fb) → W9.cell? ⟨b, 3, none⟩ = some (.map (some L.fb)) ∧ W9.cell? ⟨L.pb i, 1, none⟩ = some (.int .i64 (n : Int)) := fun W9 hg =>
      ⟨cell8 ((hg.block b (lt_of_heap h.dev) (fun e => ne_map h.dev hfb (Option.some.inj e))).trans h.dev) 3, cell8 ((hg.block _ (lt_of_heap hp1) (fun e => ne_map hp1 hfb (Option.some.inj e))).trans hp1) 1⟩
    have hfl2 : MapG (plainElem Try.prog 3) numD w.drew L.fb L.N (flF σ) := h.flm.of_block rfl
    have HFL2 := hide hfl2
    clear hfl2
    have KO := hide ko
    have S9 := hide s9
    have HOF := hide hof
    have hNm : L.N < maxLen := by unfold maxLen; omega
    have HNM := hide hNm
    have HNF := hide hnf
    have hfoot : ∀ k, Foot b { L with N := L.N + 1 } (flushDo σ i) k → Foot b L σ k := fun k hk => hk
    have HFT := hide hfoot
    clear h hok ks kh hp hof hi hb htd ko hfd s9 hp1 hn hfb hf hnf hNm hfew hfoot
    go_enter Try.func40, Try.ntmps40
    go_wp2_with (first | (go_at_call 37; refine (KS.out).mono ?_; rintro e w' ⟨rfl, hw⟩; obtain rfl := hw.symm) | (go_at_call 45; refine (KH.out).mono ?_; rintro e w' ⟨rfl, hw⟩; obtain rfl := hw.symm) | (at_lookup; refine wpList_look_some rfl (.tmp 24) (.tmp 25) rfl L.ob L.N (oldF L σ) (by kernel_rfl) HOLD.out i (by simp [Act.eval]) hwf (L.pb i) HOF.out ?_))
    refine wp_region_held_drew (S := fun X => X.cell? ⟨b, 3, none⟩ = some (.map (some L.fb)) ∧ X.cell? ⟨L.pb i, 1, none⟩ = some (.int .i64 (n : Int))) (by kernel_rfl) s0 (fun hS => ?_)
    refine wpAnyH_take (i := 0) (v := (.pointer (some ⟨b, 0, none⟩))) rfl (by kernel_rfl) (by kernel_rfl) (by kernel_rfl) (fun _ _ _ h => h) (Or.inl ⟨by kernel_rfl, fun w' hw => by (go_simp)⟩) hS ?_
    refine wpAnyH_take (i := 1) (v := (.pointer (some ⟨b, 0, none⟩))) rfl (by kernel_rfl) (by kernel_rfl) (by kernel_rfl) (fun _ _ _ h => h) (Or.inl ⟨by kernel_rfl, fun w' hw => by (go_simp)⟩) hS ?_
    refine wpAnyH_take (i := 2) (v := (.pointer (some ⟨b, 3, none⟩))) rfl (by kernel_rfl) (by kernel_rfl) (by kernel_rfl) (fun _ _ _ h => h) (Or.inl ⟨by kernel_rfl, fun w' hw => by (go_simp)⟩) hS ?_
    refine wpAnyH_take (i := 3) (v := (.map (some L.fb))) rfl (by kernel_rfl) (by kernel_rfl) (by kernel_rfl) (fun _ _ _ h => h) (Or.inl ⟨by kernel_rfl, fun w' hw => by (obtain ⟨z0, z1⟩ := hw; go_simp)⟩) hS ?_
    refine wpAnyH_take (i := 4) (v := (.int .i64 (i : Int))) rfl (by kernel_rfl) (by kernel_rfl) (by kernel_rfl) (fun _ _ _ h => h) (Or.inl ⟨by kernel_rfl, fun w' hw => by (go_simp)⟩) hS ?_
    refine wpAnyH_take (i := 5) (v := (.pointer (some ⟨L.pb i, 0, none⟩))) rfl (by kernel_rfl) (by kernel_rfl) (by kernel_rfl) (fun _ _ _ h => h) (Or.inl ⟨by kernel_rfl, fun w' hw => by (go_simp)⟩) hS ?_
    refine wpAnyH_take (i := 6) (v := (.pointer (some ⟨L.pb i, 0, none⟩))) rfl (by kernel_rfl) (by kernel_rfl) (by kernel_rfl) (fun _ _ _ h => h) (Or.inl ⟨by kernel_rfl, fun w' hw => by (go_simp)⟩) hS ?_
    refine wpAnyH_take (i := 7) (v := (.pointer (some ⟨L.pb i, 1, none⟩))) rfl (by kernel_rfl) (by kernel_rfl) (by kernel_rfl) (fun _ _ _ h => h) (Or.inl ⟨by kernel_rfl, fun w' hw => by (go_simp)⟩) hS ?_
    refine wpAnyH_take (i := 8) (v := (.int .i64 (n : Int))) rfl (by kernel_rfl) (by kernel_rfl) (by kernel_rfl) (fun _ _ _ h => h) (Or.inl ⟨by kernel_rfl, fun w' hw => by (obtain ⟨z0, z1⟩ := hw; go_simp)⟩) hS ?_
    refine wpAnyH_put_num (z := 9) (.tmp 33) (.tmp 34) (.tmp 38) L.fb L.N (flF σ) i n (by kernel_rfl) rfl (by kernel_rfl) (by kernel_rfl) (by kernel_rfl) (by kernel_rfl) (by kernel_rfl) (by kernel_rfl) HFL2.out HNM.out hwf HNF.out (fun W9 hm9 hg9 => ⟨S9.out W9 hg9, ?_⟩)
    have K9 := hide (KO.out W9 hg9 hm9)
    have HG9 := hide hg9
    clear hg9 hm9
    simp only [Act.put, List.getElem_toArray, List.getElem_cons_zero, List.getElem_cons_succ, List.setIfInBounds_toArray, List.set_cons_zero, List.set_cons_succ]
    go_wp2_with (go_at_call 62; refine (K9.out).mono ?_; rintro e w' ⟨rfl, hw, hd⟩; have HW := hide hw; have HDD := hide hd; clear hw hd)
    go_ret
    refine ⟨rfl, _, HDD.out, HFT.out, ?_, Nat.le_refl _, rfl, rfl, rfl, rfl, rfl⟩
    rw [HW.out]
    exact (Gr.of_grown (w := w) (X := Foot b L σ) ⟨HG9.out.os, HG9.out.tape, HG9.out.output, HG9.out.size, HG9.out.block⟩ (fun k hk => .inl (by cases hk; exact .inr (.inr (.inr (.inl rfl)))))).trans (Gr.set W9 b 4 _ (X := Foot b L σ) (.inl rfl)) (fun k h => .inl h)
end
end Go.Proofs.Ytgfgihpkbbjkfaa
