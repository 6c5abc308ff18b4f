/- Package scan: Scan, walked. -/
import Derived.Test.YtaljllbfedfpoaaGreatDoorSScnM
import Derived.Test.YtaljllbfedfpoaaGreatDoorSQtdW
import Derived.OwnWalk
import Derived.Maps.AppendAt
namespace Go.Proofs.YtaljllbfedfpoaaGreatDoor
open Go.RowKit Go.Shelf
set_option linter.unusedVariables false

theorem Tryz.infoTk : (Tryz.prog.info? 28).map (fun i => (i.zero, i.size, i.bytes)) = some (some (.agg #[.int .i64 0, .int .i64 0, .string ⟨#[]⟩, .int .i64 0]), 4, 40) := by kernel_rfl
/-- A row of tokens that the call owns. -/
def RowT (W : World) (base : Nat) (v : Value) (ts : List Tk) : Prop := W.ownsRow base 28 4 v ts.length (ts.flatMap tkC)
theorem RowT.keep {W W' : World} {base : Nat} {v : Value} {ts : List Tk} (h : RowT W base v ts) (hk : ∀ j, base ≤ j → j < W.heap.size → W'.heap[j]? = W.heap[j]?) : RowT W' base v ts := by
  refine ⟨h.1, ?_⟩
  rcases h.2 with h2 | ⟨g, cap, cur, hv, hg, hh, r⟩
  · exact .inl h2
  · exact .inr ⟨g, cap, cur, hv, hg, (hk g hg (Array.getElem?_eq_some_iff.1 hh).1).trans hh, r⟩
theorem RowT.grown {W W' : World} {base b : Nat} {v : Value} {ts : List Tk} (h : RowT W base v ts) (hb : b < base) (g : W.grownBy W' (some b)) : RowT W' base v ts :=
  h.keep (fun j hj hl => g.block j hl (fun e => by cases e; omega))
theorem RowT.below {W W' : World} {base : Nat} {v : Value} {ts : List Tk} (h : RowT W base v ts) (g : Below W.heap.size W W') : RowT W' base v ts :=
  h.keep (fun j hj hl => g.block j hl)
theorem cell4_new (W : World) (t : TypeId) (a b c d : Value) : ∀ j u, [a, b, c, d][j]? = some u → (W.alloc (.cells #[a, b, c, d] t)).cell? ((⟨W.heap.size, 0, none⟩ : Addr).add j) = some u := by
  intro j u hj
  match j, hj with
  | 0, hj => simp at hj; subst hj; simp [Addr.add]
  | 1, hj => simp at hj; subst hj; simp [Addr.add]
  | 2, hj => simp at hj; subst hj; simp [Addr.add]
  | 3, hj => simp at hj; subst hj; simp [Addr.add]
  | n + 4, hj => simp at hj
theorem flatT_snoc (xs : List Tk) (x : Tk) : (xs ++ [x]).flatMap tkC = xs.flatMap tkC ++ [.int .i64 x.1, .int .i64 (x.2.1 : Int), .string ⟨x.2.2.1.toArray⟩, .int .i64 x.2.2.2] := by
  rw [List.flatMap_append]; simp [tkC]
theorem mix_block {c rest : Code} {P : Program} {Q : Exit → Act → World → Prop} {J : Act → World → Prop} {K : Act → World → Prop} {n l id : Nat} {a : Act} {w : World} (hf : findLabel c (l + 1) = some rest) (h : rest.wp P (jumpA (mixJ c P Q J n) Q) a w) : Exit.inBlock id (Exit.then K (jumpA (mixJ c P Q J (n + 1)) Q)) (.goto (l + 1)) a w := ⟨rest, hf, h⟩
/-- What Scan answers. -/
def ScPost (R : List Tk ⊕ (Int × Nat)) (w : World) (e : Ending) (w' : World) : Prop := match R with
  | .inl ts => ∃ v, e = .returned (.tuple #[v, .nilIface]) ∧ RowT w' (w.heap.size + 1) v ts ∧ Below w.heap.size w w'
  | .inr (c, a) => ∃ k, e = .returned (.tuple #[.slice none 0 0, .iface 54 (.pointer (some ⟨k, 0, none⟩))]) ∧ w.heap.size ≤ k ∧ w'.heap[k]? = some (.cells #[.int .i64 c, .int .i64 (a : Int)] 56 (0, 0)) ∧ Below w.heap.size w w'
theorem below_grownB {w x y : World} (h : Below w.heap.size w x) (g : x.grownBy y (some w.heap.size)) : Below w.heap.size w y := h.grown g h.size (fun k e => by cases e; exact Nat.le_refl _)
/-- What holds ahead of each token. -/
def ScJ (w : World) (s : ByteArray) (R : List Tk ⊕ (Int × Nat)) (a : Act) (wr : World) : Prop :=
  ∃ t1 t2 t3 t5 t6 t7 t9 t10 t11 t12 t13 t14 t15 t16 t17 t18 t19 t20 t21 t22 t23 t24 t25 t26 t27 t28 t29 t30 t31 t32 t33 t34 t35 t36 t37 t38 t39 t40 t41 t42 t43 t44 t45 t46 t47 t48 t49 t50 t51 t52 t53 t54 t55 t56 t57 t58 t59 t60 t61 t62 t63 t64 t65 t66 v : Value, a = { tmps := #[.string s, t1, t2, t3, v, t5, t6, t7, .pointer (some ⟨w.heap.size, 0, none⟩), t9, t10, t11, t12, t13, t14, t15, t16, t17, t18, t19, t20, t21, t22, t23, t24, t25, t26, t27, t28, t29, t30, t31, t32, t33, t34, t35, t36, t37, t38, t39, t40, t41, t42, t43, t44, t45, t46, t47, t48, t49, t50, t51, t52, t53, t54, t55, t56, t57, t58, t59, t60, t61, t62, t63, t64, t65, t66], defers := [] } ∧
    ∃ (q : Nat) (acc : List Tk), q ≤ s.size ∧ acc.length ≤ q ∧ R = Sc (bl s) q acc ∧ Rd wr w.heap.size s q ∧ RowT wr (w.heap.size + 1) v acc ∧ Below w.heap.size w wr
set_option maxRecDepth 100000 in
set_option maxHeartbeats 16000000 in
theorem scan_any (s : ByteArray) (w : World) (hs : s.size ≤ 16384) (hL : LaidW w) :
    Calls Tryz.prog 12 #[.string s] w fun e w' => ScPost (Sc (bl s) 0 []) w e w' := by
  have HL := hide hL
  have hs' : s.size ≤ 140737488355328 := by omega
  obtain ⟨i0, hi, hz0, hz1, hz2⟩ := info_parts Tryz.infoTk
  clear hL
  have hR0 : Rd (w.alloc (.cells #[.string s, .int .i64 0] 58)) w.heap.size s 0 := heap_alloc_new w _
  have hB0 : Below w.heap.size w (w.alloc (.cells #[.string s, .int .i64 0] 58)) := (Below.refl _ _).alloc (Nat.le_refl _) _
  generalize hRR : Sc (bl s) 0 [] = R
  have HR0 := hide hR0
  have HB0 := hide hB0
  have HRR := hide hRR
  clear hR0 hB0 hRR
  go_enter Tryz.func12, Tryz.ntmps12
  go_wp2_with (fail)
  refine wp_scope_mixR 4 (ScJ w s R) (fun _ wr => s.size - (intOf ((wr.cell? ⟨w.heap.size, 1, none⟩).getD undef)).toNat) rfl ?_ ?_
  · intro a wr hJ
    obtain ⟨t1, t2, t3, t5, t6, t7, t9, t10, t11, t12, t13, t14, t15, t16, t17, t18, t19, t20, t21, t22, t23, t24, t25, t26, t27, t28, t29, t30, t31, t32, t33, t34, t35, t36, t37, t38, t39, t40, t41, t42, t43, t44, t45, t46, t47, t48, t49, t50, t51, t52, t53, t54, t55, t56, t57, t58, t59, t60, t61, t62, t63, t64, t65, t66, v, rfl, q, acc, hqs, hal, hR, hRd, hrow, hB⟩ := hJ
    have hmu : s.size - (intOf ((wr.cell? ⟨w.heap.size, 1, none⟩).getD undef)).toNat = s.size - q := by rw [hRd.at]; simp [intOf]
    rw [hmu]
    obtain ⟨p, hp⟩ : ∃ p, q + skp blankC ((bl s).drop q) = p := ⟨_, rfl⟩
    have hple := skp_le blankC ((bl s).drop q)
    rw [List.length_drop, bl_len] at hple
    have hps : p ≤ s.size := by omega
    have hqp : q ≤ p := by omega
    have hSc := Sc_eq acc (by rw [bl_len]; exact hqs) hp
    rw [← hR, bl_len] at hSc
    have ks := skipBlank w.heap.size s q wr hRd hqs hs'
    rw [hp] at ks
    generalize decide (0 < skp blankC ((bl s).drop q)) = sb at ks
    have kd := fun x h => done_any w.heap.size s p x h hps
    have KS := hide ks
    have HROW := hide hrow
    have HB := hide hB
    clear hRd hrow hB hmu ks hR hp hple
    have SKIP := True.intro
    by_cases hpe : p = s.size
    · rw [decide_eq_true hpe] at kd
      have KD := hide kd
      rw [if_pos hpe] at hSc
      subst hSc
      clear kd hpe SKIP
      go_wp2_with (first | (go_at_call 26; refine (KS.out).mono ?_; rintro e x ⟨rfl, hRx, hgx⟩; have HRX := hide hRx; have HROWX := hide (HROW.out.grown (Nat.lt_succ_self _) hgx); have HBX := hide (below_grownB HB.out hgx); have x1 := hRx.at; clear hRx hgx KS) | (go_at_call 28; refine (KD.out _ HRX.out).mono ?_; rintro e z ⟨rfl, nz, hz9⟩; subst hz9))
      rw [jumpA_ret]
      go_ret2
      exact ⟨_, rfl, HROWX.out, below_drewN HBX.out nz⟩
    rw [decide_eq_false hpe] at kd
    have KD := hide kd
    rw [if_neg hpe] at hSc
    have hpl : p < s.size := by omega
    have hplI : (p : Int) < (s.size : Int) := by omega
    clear kd hpe SKIP
    by_cases c34 : by' (bl s) p = 34
    · have e34 : isAt s p 34 = true := by unfold isAt; rw [decide_eq_true hpl, decide_eq_true c34]; rfl
      rw [if_pos c34] at hSc
      have kt := fun x h => takes_yes w.heap.size s p 34 x h hps hs' e34
      have kq := fun x h => quoted_any w.heap.size s (p + 1) x h (by omega) hs'
      have hEl := Qt_le ((bl s).drop (p + 1))
      rw [List.length_drop, bl_len] at hEl
      obtain ⟨T, E, ok, hQ⟩ : ∃ T E ok, Qt ((bl s).drop (p + 1)) = (T, E, ok) := ⟨_, _, _, rfl⟩
      rw [hQ] at hSc kq hEl
      simp only at hSc kq hEl
      have KT := hide kt
      clear kt e34 c34 hQ
      obtain ⟨e, he⟩ : ∃ e, p + 1 + E = e := ⟨_, rfl⟩
      rw [he] at hSc kq
      have heS : e ≤ s.size := by omega
      have hqe : q < e := by omega
      clear he hEl
      cases ok with
      | false =>
        simp only [Bool.false_eq_true, if_false] at hSc kq
        subst hSc
        have KQ := hide kq
        clear kq
        go_wp2_with (first | (go_at_call 26; refine (KS.out).mono ?_; rintro e x ⟨rfl, hRx, hgx⟩; have HRX := hide hRx; have HROWX := hide (HROW.out.grown (Nat.lt_succ_self _) hgx); have HBX := hide (below_grownB HB.out hgx); have x1 := hRx.at; clear hRx hgx KS) | (go_at_call 28; refine (KD.out _ HRX.out).mono ?_; rintro e z ⟨rfl, nz, hz9⟩; have HRZ := hide (HRX.out.drewN nz); have HBZ := hide (below_drewN HBX.out nz); rw [← hz9] at HRZ HBZ; clear hz9 HRX) | (go_at_call 29; refine (KT.out _ HRZ.out).mono ?_; rintro e y ⟨rfl, hRy, hgy⟩; have HRY := hide hRy; have HBY := hide (below_grownB HBZ.out hgy); clear hRy hgy HRZ))
        go_step3
        first | refine mix_then rfl ?_ | refine mix_zero ?_ | refine mix_block rfl ?_
        go_wp2_with (first | (go_at_call 32; refine (KQ.out _ HRY.out).mono ?_; rintro e u ⟨rfl, hRu, hgu⟩; have HRU := hide hRu; have HBU := hide (below_grownB HBY.out hgu); clear hRu hgu HRY))
        have x1 : u.cell? ⟨w.heap.size, 1, none⟩ = some (.int .i64 (e : Int)) := HRU.out.at
        refine Go.wp_mono (Q := noPanS _) ?_ noPanS_le
        refine wp_region_held_drew (S := fun W => W.cell? ⟨w.heap.size, 1, none⟩ = some (.int .i64 (e : Int))) (by kernel_rfl) x1 (fun hS => ?_)
        refine wpAnyH_take (i := 0) (v := .pointer (some ⟨w.heap.size, 1, none⟩)) rfl (by kernel_rfl) (by kernel_rfl) (by kernel_rfl) (fun _ _ _ h => h) (Or.inl ⟨by kernel_rfl, fun w' hw => by go_simp⟩) hS ?_
        refine wpAnyH_take (i := 1) (v := .int .i64 (e : Int)) rfl (by kernel_rfl) (by kernel_rfl) (by kernel_rfl) (fun _ _ _ h => h) (Or.inl ⟨by kernel_rfl, fun w' hw => by go_simp⟩) hS ?_
        refine wpAnyH_take (i := 2) (v := .agg #[.int .i64 71, .int .i64 (e : Int)]) rfl (by kernel_rfl) (by kernel_rfl) (by kernel_rfl) (fun _ _ _ h => h) (Or.inl ⟨by kernel_rfl, fun w' hw => by go_simp⟩) hS ?_
        refine wpAnyH_take (i := 5) (v := .slice none 0 0) rfl (by kernel_rfl) (by kernel_rfl) (by kernel_rfl) (fun _ _ _ h => h) (Or.inl ⟨by kernel_rfl, fun w' hw => by go_simp⟩) hS ?_
        refine wpAnyH_ready (rs := [3]) (by kernel_rfl) (by simp) ?_
        refine AllReadyH.cons rfl (fun K hK => ?_) AllReadyH.nil
        rw [if_pos (by kernel_rfl)]
        go_simp
        have hBA : Below u.heap.size u (u.alloc (.cells #[.int .i64 71, .int .i64 (e : Int)] 56)).drew := ((Below.refl _ u).alloc (Nat.le_refl _) _).drew
        have hS2 : (u.alloc (.cells #[.int .i64 71, .int .i64 (e : Int)] 56)).drew.cell? ⟨w.heap.size, 1, none⟩ = some (.int .i64 (e : Int)) := (hBA.cell (World.block_lt_of_cell? _ _ x1)).trans x1
        have hN : (u.alloc (.cells #[.int .i64 71, .int .i64 (e : Int)] 56)).drew.heap[u.heap.size]? = some (.cells #[.int .i64 71, .int .i64 (e : Int)] 56 (0, 0)) := heap_alloc_new u _
        refine hK.out _ _ hS2 (fun _ => ?_)
        clear hK K
        generalize (u.alloc (.cells #[.int .i64 71, .int .i64 (e : Int)] 56)).drew = Y at *
        refine wpAnyH_take (i := 4) (v := .iface 54 (.pointer (some ⟨u.heap.size, 0, none⟩))) rfl (by kernel_rfl) (by kernel_rfl) (by kernel_rfl) (fun _ _ _ h => h) (Or.inl ⟨by kernel_rfl, fun w' hw => by go_simp⟩) hS2 ?_
        refine wpAnyH_take (i := 6) (v := .iface 54 (.pointer (some ⟨u.heap.size, 0, none⟩))) rfl (by kernel_rfl) (by kernel_rfl) (by kernel_rfl) (fun _ _ _ h => h) (Or.inl ⟨by kernel_rfl, fun w' hw => by go_simp⟩) hS2 ?_
        refine wpAnyH_done (by kernel_rfl) (noPanS_normal ?_) _
        try simp only [Act.put, List.getElem_toArray, List.getElem_cons_zero, List.getElem_cons_succ, List.setIfInBounds_toArray, List.set_cons_zero, List.set_cons_succ]
        go_wp2_with (fail)
        rw [jumpA_ret]
        go_ret2
        exact ⟨u.heap.size, rfl, HBU.out.size, hN, bseq HBU.out hBA⟩
      | true =>
        simp only [if_true] at hSc kq
        have KQ := hide kq
        have HSC := hide hSc
        clear kq hSc
        go_wp2_with (first | (go_at_call 26; refine (KS.out).mono ?_; rintro e x ⟨rfl, hRx, hgx⟩; have HRX := hide hRx; have HROWX := hide (HROW.out.grown (Nat.lt_succ_self _) hgx); have HBX := hide (below_grownB HB.out hgx); have x1 := hRx.at; clear hRx hgx KS) | (go_at_call 28; refine (KD.out _ HRX.out).mono ?_; rintro e z ⟨rfl, nz, hz9⟩; have HRZ := hide (HRX.out.drewN nz); have HBZ := hide (below_drewN HBX.out nz); have HROWZ := hide (show RowT (_) (w.heap.size + 1) v acc from HROWX.out.keep (W' := z) (fun j _ _ => by rw [hz9]; rfl)); rw [← hz9] at HRZ HBZ; clear hz9 HRX) | (go_at_call 29; refine (KT.out _ HRZ.out).mono ?_; rintro e y ⟨rfl, hRy, hgy⟩; have HRY := hide hRy; have HBY := hide (below_grownB HBZ.out hgy); have HROWY := hide (HROWZ.out.grown (Nat.lt_succ_self _) hgy); clear hRy hgy HRZ))
        go_step3
        first | refine mix_then rfl ?_ | refine mix_zero ?_ | refine mix_block rfl ?_
        go_wp2_with (first | (go_at_call 32; refine (KQ.out _ HRY.out).mono ?_; rintro e u ⟨rfl, hRu, hgu⟩; have HRU := hide hRu; have HBU := hide (below_grownB HBY.out hgu); have HROWU := hide (HROWY.out.grown (Nat.lt_succ_self _) hgu); have hzu : w.heap.size < u.heap.size := hRu.lt; clear hRu hgu HRY) | (at_builtin; refine wpList_append_own_at _ rfl _ _ 29 rfl (w.heap.size + 1) 28 i0 (.agg #[.int .i64 0, .int .i64 0, .string ⟨#[]⟩, .int .i64 0]) 4 40 Tryz.underlying29 hi hz0 hz1 hz2 rfl (by decide) _ _ _ rfl (HROWU.out.alloc _) ⟨u.heap.size, 0, none⟩ 1 1 [.int .i64 3, .int .i64 (p : Int), .string ⟨T.toArray⟩, .int .i64 0] rfl rfl (cell4_new _ _ _ _ _ _) (by simp [Value.oneCell']) (by unfold maxLen; omega) (by omega) (by have := hzu; simp; omega) ?_; intro v' w3 hown' hgrow _ _))
        have hb3 : Below w.heap.size w w3 := (HBU.out.alloc HBU.out.size _).grown hgrow (by have := hzu; simp; omega) (fun k e9 => by have := (HROWU.out.lt k e9).1; omega)
        have hR3 : Rd w3 w.heap.size s e := (hgrow.block w.heap.size (by have := hzu; simp; omega) (fun e9 => by have := (HROWU.out.lt w.heap.size e9.symm).1; omega)).trans ((HRU.out).below (by have := hzu; omega) ((Below.refl _ u).alloc (Nat.le_refl _) _))
        have hrow3 : RowT w3 (w.heap.size + 1) v' (acc ++ [(3, p, T, 0)]) := by
          unfold RowT
          rw [flatT_snoc, List.length_append, List.length_singleton]
          exact hown'
        have HR3 := hide hR3
        have HROW3 := hide hrow3
        have HB3 := hide hb3
        have d1 := hR3.at
        clear hR3 hrow3 hb3 hgrow hown'
        go_step3
        have kd3 := fun x h => done_any w.heap.size s e x h heS
        by_cases hend : e = s.size
        · rw [decide_eq_true hend] at kd3
          have KD3 := hide kd3
          have hSc2 := HSC.out
          rw [if_pos (Or.inl hend)] at hSc2
          have HSC2 := hide hSc2
          clear kd3 hSc2 hend
          go_wp2_with (first | (go_at_call 28; refine (KD3.out _ HR3.out).mono ?_; rintro e9 z ⟨rfl, nz, hz9⟩; subst hz9))
          go_step3
          first | refine mix_then rfl ?_ | refine mix_zero ?_ | refine mix_block rfl ?_
          refine ⟨⟨_, _, _, _, _, _, _, _, _, _, _, _, _, _, _, _, _, _, _, _, _, _, _, _, _, _, _, _, _, _, _, _, _, _, _, _, _, _, _, _, _, _, _, _, _, _, _, _, _, _, _, _, _, _, _, _, _, _, _, _, _, _, _, _, _, rfl, e, acc ++ [(3, p, T, 0)], heS, by rw [List.length_append, List.length_singleton]; omega, HSC2.out, HR3.out.drewN nz, HROW3.out, below_drewN HB3.out nz⟩, ?_⟩
          rw [(HR3.out.drewN nz).at]
          simp only [Option.getD_some, intOf, Int.toNat_natCast]
          omega
        · rw [decide_eq_false hend] at kd3
          have KD3 := hide kd3
          have heLt : e < s.size := by omega
          have heI : ((e : Nat) : Int) < (s.size : Int) := by omega
          have hbe : by' (bl s) e = (s[e]'heLt).toNat := by'_get s e heLt
          have kb := fun W => isBlank_any (s[e]'heLt).toNat W (UInt8.toNat_lt _)
          rw [← hbe] at kb
          cases hbl : blankC (by' (bl s) e) with
          | true =>
            have hSc2 := HSC.out
            rw [if_pos (Or.inr hbl)] at hSc2
            rw [hbl, hbe] at kb
            have HSC2 := hide hSc2
            have KB := hide kb
            clear kd3 hSc2 kb hbl hbe
            go_wp2_with (first | (go_at_call 28; refine (KD3.out _ HR3.out).mono ?_; rintro e9 z ⟨rfl, nz, hz9⟩; subst hz9) | (go_at_call 27; refine (KB.out _).mono ?_; rintro e9 z9 ⟨rfl, hz8⟩; subst hz8))
            go_step3
            first | refine mix_then rfl ?_ | refine mix_zero ?_ | refine mix_block rfl ?_
            refine ⟨⟨_, _, _, _, _, _, _, _, _, _, _, _, _, _, _, _, _, _, _, _, _, _, _, _, _, _, _, _, _, _, _, _, _, _, _, _, _, _, _, _, _, _, _, _, _, _, _, _, _, _, _, _, _, _, _, _, _, _, _, _, _, _, _, _, _, rfl, e, acc ++ [(3, p, T, 0)], heS, by rw [List.length_append, List.length_singleton]; omega, HSC2.out, HR3.out.drewN nz, HROW3.out, below_drewN HB3.out nz⟩, ?_⟩
            rw [(HR3.out.drewN nz).at]
            simp only [Option.getD_some, intOf, Int.toNat_natCast]
            omega
          | false =>
            have hSc2 := HSC.out
            rw [if_neg (fun h => h.elim hend (fun h2 => by rw [hbl] at h2; exact absurd h2 (by decide)))] at hSc2
            rw [hbl, hbe] at kb
            subst hSc2
            have KB := hide kb
            clear kd3 kb hbl hbe
            go_wp2_with (first | (go_at_call 28; refine (KD3.out _ HR3.out).mono ?_; rintro e9 z ⟨rfl, nz, hz9⟩; have HRZ := hide (HR3.out.drewN nz); have HBZ := hide (below_drewN HB3.out nz); rw [← hz9] at HRZ HBZ; have d2 := HRZ.out.at; clear hz9) | (go_at_call 27; refine (KB.out _).mono ?_; rintro e9 z9 ⟨rfl, hz8⟩; subst hz8))
            go_step3
            go_wp2_with (fail)
            have x1 : z9.cell? ⟨w.heap.size, 1, none⟩ = some (.int .i64 ((e : Nat) : Int)) := HRZ.out.at
            refine Go.wp_mono (Q := noPanS _) ?_ noPanS_le
            refine wp_region_held_drew (S := fun W => W.cell? ⟨w.heap.size, 1, none⟩ = some (.int .i64 ((e : Nat) : Int))) (by kernel_rfl) x1 (fun hS => ?_)
            refine wpAnyH_take (i := 0) (v := .pointer (some ⟨w.heap.size, 1, none⟩)) rfl (by kernel_rfl) (by kernel_rfl) (by kernel_rfl) (fun _ _ _ h => h) (Or.inl ⟨by kernel_rfl, fun w' hw => by go_simp⟩) hS ?_
            refine wpAnyH_take (i := 1) (v := .int .i64 ((e : Nat) : Int)) rfl (by kernel_rfl) (by kernel_rfl) (by kernel_rfl) (fun _ _ _ h => h) (Or.inl ⟨by kernel_rfl, fun w' hw => by go_simp⟩) hS ?_
            refine wpAnyH_take (i := 2) (v := .agg #[.int .i64 70, .int .i64 ((e : Nat) : Int)]) rfl (by kernel_rfl) (by kernel_rfl) (by kernel_rfl) (fun _ _ _ h => h) (Or.inl ⟨by kernel_rfl, fun w' hw => by go_simp⟩) hS ?_
            refine wpAnyH_take (i := 5) (v := .slice none 0 0) rfl (by kernel_rfl) (by kernel_rfl) (by kernel_rfl) (fun _ _ _ h => h) (Or.inl ⟨by kernel_rfl, fun w' hw => by go_simp⟩) hS ?_
            refine wpAnyH_ready (rs := [3]) (by kernel_rfl) (by simp) ?_
            refine AllReadyH.cons rfl (fun K hK => ?_) AllReadyH.nil
            rw [if_pos (by kernel_rfl)]
            go_simp
            have hBA : Below z9.heap.size z9 (z9.alloc (.cells #[.int .i64 70, .int .i64 ((e : Nat) : Int)] 56)).drew := ((Below.refl _ z9).alloc (Nat.le_refl _) _).drew
            have hS2 : (z9.alloc (.cells #[.int .i64 70, .int .i64 ((e : Nat) : Int)] 56)).drew.cell? ⟨w.heap.size, 1, none⟩ = some (.int .i64 ((e : Nat) : Int)) := (hBA.cell (World.block_lt_of_cell? _ _ x1)).trans x1
            have hN : (z9.alloc (.cells #[.int .i64 70, .int .i64 ((e : Nat) : Int)] 56)).drew.heap[z9.heap.size]? = some (.cells #[.int .i64 70, .int .i64 ((e : Nat) : Int)] 56 (0, 0)) := heap_alloc_new z9 _
            refine hK.out _ _ hS2 (fun _ => ?_)
            clear hK K
            generalize (z9.alloc (.cells #[.int .i64 70, .int .i64 ((e : Nat) : Int)] 56)).drew = Y at *
            refine wpAnyH_take (i := 4) (v := .iface 54 (.pointer (some ⟨z9.heap.size, 0, none⟩))) rfl (by kernel_rfl) (by kernel_rfl) (by kernel_rfl) (fun _ _ _ h => h) (Or.inl ⟨by kernel_rfl, fun w' hw => by go_simp⟩) hS2 ?_
            refine wpAnyH_take (i := 6) (v := .iface 54 (.pointer (some ⟨z9.heap.size, 0, none⟩))) rfl (by kernel_rfl) (by kernel_rfl) (by kernel_rfl) (fun _ _ _ h => h) (Or.inl ⟨by kernel_rfl, fun w' hw => by go_simp⟩) hS2 ?_
            refine wpAnyH_done (by kernel_rfl) (noPanS_normal ?_) _
            try simp only [Act.put, List.getElem_toArray, List.getElem_cons_zero, List.getElem_cons_succ, List.setIfInBounds_toArray, List.set_cons_zero, List.set_cons_succ]
            go_wp2_with (fail)
            rw [jumpA_ret]
            go_ret2
            exact ⟨z9.heap.size, rfl, HBZ.out.size, hN, bseq HBZ.out hBA⟩
    have e34 : isAt s p 34 = false := by unfold isAt; rw [decide_eq_false c34, Bool.and_false]
    rw [if_neg c34] at hSc
    have kt := fun x h => takes_no w.heap.size s p 34 x h hps hs' e34
    have kr := fun x h => skipRun w.heap.size s p x h hps hs'
    have hnl := skp_le runC ((bl s).drop p)
    rw [List.length_drop, bl_len] at hnl
    have hex : bl (s.extract p (p + skp runC ((bl s).drop p))) = ((bl s).drop p).take (skp runC ((bl s).drop p)) := by rw [bl_extract, Nat.add_sub_cancel_left]
    rw [← hex] at hSc
    clear hex
    generalize skp runC ((bl s).drop p) = n at *
    have KT := hide kt
    clear kt e34 c34
    by_cases hn : 0 < n
    · rw [decide_eq_true hn] at kr
      rw [if_pos hn] at hSc
      obtain ⟨e, he⟩ : ∃ e, p + n = e := ⟨_, rfl⟩
      rw [he] at hSc kr
      have heS : e ≤ s.size := by omega
      have hqe : q < e := by omega
      have hpeI : (p : Int) ≤ (e : Int) := by omega
      have heSI : (e : Int) ≤ (s.size : Int) := by omega
      have hxz : (s.extract p e).size ≤ 140737488355328 := by rw [ByteArray.size_extract]; omega
      have ksd := fun W h => said_any (s.extract p e) (p : Int) W hxz h
      rw [saidV_T] at ksd
      obtain ⟨k', a', tx, nu, hT⟩ : ∃ k' a' tx nu, saidT (bl (s.extract p e)) p = (k', a', tx, nu) := ⟨_, _, _, _, rfl⟩
      rw [hT] at ksd hSc
      have ksd' : ∀ (W : World) (h : LaidW W), Calls Tryz.prog 31 #[.string (s.extract p e), .int .i64 (p : Int)] W fun e w' => e = .returned (.agg #[.int .i64 k', .int .i64 (a' : Int), .string ⟨tx.toArray⟩, .int .i64 nu]) ∧ Below W.heap.size W w' := ksd
      have KSD := hide ksd'
      have KR := hide kr
      have HSC := hide hSc
      clear kr hn hSc he ksd ksd' hT hnl
      go_wp2_with (first | (go_at_call 26; refine (KS.out).mono ?_; rintro e x ⟨rfl, hRx, hgx⟩; have HRX := hide hRx; have HROWX := hide (HROW.out.grown (Nat.lt_succ_self _) hgx); have HBX := hide (below_grownB HB.out hgx); have x1 := hRx.at; clear hRx hgx KS) | (go_at_call 28; refine (KD.out _ HRX.out).mono ?_; rintro e z ⟨rfl, nz, hz9⟩; have HRZ := hide (HRX.out.drewN nz); have HBZ := hide (below_drewN HBX.out nz); have HROWZ := hide (show RowT (_) (w.heap.size + 1) v acc from HROWX.out.keep (W' := z) (fun j _ _ => by rw [hz9]; rfl)); rw [← hz9] at HRZ HBZ; clear hz9 HRX) | (go_at_call 29; refine (KT.out _ HRZ.out).mono ?_; rintro e y ⟨rfl, hRy, hgy⟩; have HRY := hide hRy; have HBY := hide (below_grownB HBZ.out hgy); have HROWY := hide (HROWZ.out.grown (Nat.lt_succ_self _) hgy); clear hRy hgy HRZ) | (go_at_call 26; refine (KR.out _ HRY.out).mono ?_; rintro e u ⟨rfl, hRu, hgu⟩; have HRU := hide hRu; have HBU := hide (below_grownB HBY.out hgu); have HROWU := hide (HROWY.out.grown (Nat.lt_succ_self _) hgu); have u1 := hRu.at; clear hRu hgu HRY) | (go_at_call 31; refine (KSD.out _ (HL.out.below HBU.out)).mono ?_; rintro e g ⟨rfl, hbg⟩; have HRG := hide (HRU.out.below HRU.out.lt hbg); have HBG := hide (bseq HBU.out hbg); have HROWG := hide (HROWU.out.below hbg); have hzg : w.heap.size < g.heap.size := HRG.out.lt; clear hbg) | (at_builtin; refine wpList_append_own_at _ rfl _ _ 29 rfl (w.heap.size + 1) 28 i0 (.agg #[.int .i64 0, .int .i64 0, .string ⟨#[]⟩, .int .i64 0]) 4 40 Tryz.underlying29 hi hz0 hz1 hz2 rfl (by decide) _ _ _ rfl (HROWG.out.alloc _) ⟨g.heap.size, 0, none⟩ 1 1 [.int .i64 k', .int .i64 (a' : Int), .string ⟨tx.toArray⟩, .int .i64 nu] rfl rfl (cell4_new _ _ _ _ _ _) (by simp [Value.oneCell']) (by unfold maxLen; omega) (by omega) (by have := hzg; simp; omega) ?_; intro v' w3 hown' hgrow _ _))
      have hb3 : Below w.heap.size w w3 := (HBG.out.alloc HBG.out.size _).grown hgrow (by have := hzg; simp; omega) (fun k e9 => by have := (HROWG.out.lt k e9).1; omega)
      have hR3 : Rd w3 w.heap.size s e := (hgrow.block w.heap.size (by have := hzg; simp; omega) (fun e9 => by have := (HROWG.out.lt w.heap.size e9.symm).1; omega)).trans ((HRG.out).below (by have := hzg; omega) ((Below.refl _ g).alloc (Nat.le_refl _) _))
      have hrow3 : RowT w3 (w.heap.size + 1) v' (acc ++ [(k', a', tx, nu)]) := by
        unfold RowT
        rw [flatT_snoc, List.length_append, List.length_singleton]
        exact hown'
      have HR3 := hide hR3
      have HROW3 := hide hrow3
      have HB3 := hide hb3
      have d1 := hR3.at
      clear hR3 hrow3 hb3 hgrow hown'
      go_step3
      first | refine mix_then rfl ?_ | refine mix_zero ?_ | refine mix_block rfl ?_
      have kd3 := fun x h => done_any w.heap.size s e x h heS
      by_cases hend : e = s.size
      · rw [decide_eq_true hend] at kd3
        have KD3 := hide kd3
        have hSc2 := HSC.out
        rw [if_pos (Or.inl hend)] at hSc2
        have HSC2 := hide hSc2
        clear kd3 hSc2 hend
        go_wp2_with (first | (go_at_call 28; refine (KD3.out _ HR3.out).mono ?_; rintro e9 z ⟨rfl, nz, hz9⟩; subst hz9))
        go_step3
        first | refine mix_then rfl ?_ | refine mix_zero ?_ | refine mix_block rfl ?_
        refine ⟨⟨_, _, _, _, _, _, _, _, _, _, _, _, _, _, _, _, _, _, _, _, _, _, _, _, _, _, _, _, _, _, _, _, _, _, _, _, _, _, _, _, _, _, _, _, _, _, _, _, _, _, _, _, _, _, _, _, _, _, _, _, _, _, _, _, _, rfl, e, acc ++ [(k', a', tx, nu)], heS, by rw [List.length_append, List.length_singleton]; omega, HSC2.out, HR3.out.drewN nz, HROW3.out, below_drewN HB3.out nz⟩, ?_⟩
        rw [(HR3.out.drewN nz).at]
        simp only [Option.getD_some, intOf, Int.toNat_natCast]
        omega
      · rw [decide_eq_false hend] at kd3
        have KD3 := hide kd3
        have heLt : e < s.size := by omega
        have heI : ((e : Nat) : Int) < (s.size : Int) := by omega
        have hbe : by' (bl s) e = (s[e]'heLt).toNat := by'_get s e heLt
        have kb := fun W => isBlank_any (s[e]'heLt).toNat W (UInt8.toNat_lt _)
        rw [← hbe] at kb
        cases hbl : blankC (by' (bl s) e) with
        | true =>
          have hSc2 := HSC.out
          rw [if_pos (Or.inr hbl)] at hSc2
          rw [hbl, hbe] at kb
          have HSC2 := hide hSc2
          have KB := hide kb
          clear kd3 hSc2 kb hbl hbe
          go_wp2_with (first | (go_at_call 28; refine (KD3.out _ HR3.out).mono ?_; rintro e9 z ⟨rfl, nz, hz9⟩; subst hz9) | (go_at_call 27; refine (KB.out _).mono ?_; rintro e9 z9 ⟨rfl, hz8⟩; subst hz8))
          go_step3
          first | refine mix_then rfl ?_ | refine mix_zero ?_ | refine mix_block rfl ?_
          refine ⟨⟨_, _, _, _, _, _, _, _, _, _, _, _, _, _, _, _, _, _, _, _, _, _, _, _, _, _, _, _, _, _, _, _, _, _, _, _, _, _, _, _, _, _, _, _, _, _, _, _, _, _, _, _, _, _, _, _, _, _, _, _, _, _, _, _, _, rfl, e, acc ++ [(k', a', tx, nu)], heS, by rw [List.length_append, List.length_singleton]; omega, HSC2.out, HR3.out.drewN nz, HROW3.out, below_drewN HB3.out nz⟩, ?_⟩
          rw [(HR3.out.drewN nz).at]
          simp only [Option.getD_some, intOf, Int.toNat_natCast]
          omega
        | false =>
          have hSc2 := HSC.out
          rw [if_neg (fun h => h.elim hend (fun h2 => by rw [hbl] at h2; exact absurd h2 (by decide)))] at hSc2
          rw [hbl, hbe] at kb
          subst hSc2
          have KB := hide kb
          clear kd3 kb hbl hbe
          go_wp2_with (first | (go_at_call 28; refine (KD3.out _ HR3.out).mono ?_; rintro e9 z ⟨rfl, nz, hz9⟩; have HRZ := hide (HR3.out.drewN nz); have HBZ := hide (below_drewN HB3.out nz); rw [← hz9] at HRZ HBZ; have d2 := HRZ.out.at; clear hz9) | (go_at_call 27; refine (KB.out _).mono ?_; rintro e9 z9 ⟨rfl, hz8⟩; subst hz8))
          go_step3
          go_wp2_with (fail)
          have x1 : z9.cell? ⟨w.heap.size, 1, none⟩ = some (.int .i64 ((e : Nat) : Int)) := HRZ.out.at
          refine Go.wp_mono (Q := noPanS _) ?_ noPanS_le
          refine wp_region_held_drew (S := fun W => W.cell? ⟨w.heap.size, 1, none⟩ = some (.int .i64 ((e : Nat) : Int))) (by kernel_rfl) x1 (fun hS => ?_)
          refine wpAnyH_take (i := 0) (v := .pointer (some ⟨w.heap.size, 1, none⟩)) rfl (by kernel_rfl) (by kernel_rfl) (by kernel_rfl) (fun _ _ _ h => h) (Or.inl ⟨by kernel_rfl, fun w' hw => by go_simp⟩) hS ?_
          refine wpAnyH_take (i := 1) (v := .int .i64 ((e : Nat) : Int)) rfl (by kernel_rfl) (by kernel_rfl) (by kernel_rfl) (fun _ _ _ h => h) (Or.inl ⟨by kernel_rfl, fun w' hw => by go_simp⟩) hS ?_
          refine wpAnyH_take (i := 2) (v := .agg #[.int .i64 70, .int .i64 ((e : Nat) : Int)]) rfl (by kernel_rfl) (by kernel_rfl) (by kernel_rfl) (fun _ _ _ h => h) (Or.inl ⟨by kernel_rfl, fun w' hw => by go_simp⟩) hS ?_
          refine wpAnyH_take (i := 5) (v := .slice none 0 0) rfl (by kernel_rfl) (by kernel_rfl) (by kernel_rfl) (fun _ _ _ h => h) (Or.inl ⟨by kernel_rfl, fun w' hw => by go_simp⟩) hS ?_
          refine wpAnyH_ready (rs := [3]) (by kernel_rfl) (by simp) ?_
          refine AllReadyH.cons rfl (fun K hK => ?_) AllReadyH.nil
          rw [if_pos (by kernel_rfl)]
          go_simp
          have hBA : Below z9.heap.size z9 (z9.alloc (.cells #[.int .i64 70, .int .i64 ((e : Nat) : Int)] 56)).drew := ((Below.refl _ z9).alloc (Nat.le_refl _) _).drew
          have hS2 : (z9.alloc (.cells #[.int .i64 70, .int .i64 ((e : Nat) : Int)] 56)).drew.cell? ⟨w.heap.size, 1, none⟩ = some (.int .i64 ((e : Nat) : Int)) := (hBA.cell (World.block_lt_of_cell? _ _ x1)).trans x1
          have hN : (z9.alloc (.cells #[.int .i64 70, .int .i64 ((e : Nat) : Int)] 56)).drew.heap[z9.heap.size]? = some (.cells #[.int .i64 70, .int .i64 ((e : Nat) : Int)] 56 (0, 0)) := heap_alloc_new z9 _
          refine hK.out _ _ hS2 (fun _ => ?_)
          clear hK K
          generalize (z9.alloc (.cells #[.int .i64 70, .int .i64 ((e : Nat) : Int)] 56)).drew = Y at *
          refine wpAnyH_take (i := 4) (v := .iface 54 (.pointer (some ⟨z9.heap.size, 0, none⟩))) rfl (by kernel_rfl) (by kernel_rfl) (by kernel_rfl) (fun _ _ _ h => h) (Or.inl ⟨by kernel_rfl, fun w' hw => by go_simp⟩) hS2 ?_
          refine wpAnyH_take (i := 6) (v := .iface 54 (.pointer (some ⟨z9.heap.size, 0, none⟩))) rfl (by kernel_rfl) (by kernel_rfl) (by kernel_rfl) (fun _ _ _ h => h) (Or.inl ⟨by kernel_rfl, fun w' hw => by go_simp⟩) hS2 ?_
          refine wpAnyH_done (by kernel_rfl) (noPanS_normal ?_) _
          try simp only [Act.put, List.getElem_toArray, List.getElem_cons_zero, List.getElem_cons_succ, List.setIfInBounds_toArray, List.set_cons_zero, List.set_cons_succ]
          go_wp2_with (fail)
          rw [jumpA_ret]
          go_ret2
          exact ⟨z9.heap.size, rfl, HBZ.out.size, hN, bseq HBZ.out hBA⟩
    · have hn0 : n = 0 := by omega
      subst hn0
      rw [decide_eq_false hn, Nat.add_zero] at kr
      rw [if_neg hn] at hSc
      subst hSc
      have KR := hide kr
      clear kr hn hnl
      go_wp2_with (first | (go_at_call 26; refine (KS.out).mono ?_; rintro e x ⟨rfl, hRx, hgx⟩; have HRX := hide hRx; have HROWX := hide (HROW.out.grown (Nat.lt_succ_self _) hgx); have HBX := hide (below_grownB HB.out hgx); have x1 := hRx.at; clear hRx hgx KS) | (go_at_call 28; refine (KD.out _ HRX.out).mono ?_; rintro e z ⟨rfl, nz, hz9⟩; have HRZ := hide (HRX.out.drewN nz); have HBZ := hide (below_drewN HBX.out nz); rw [← hz9] at HRZ HBZ; clear hz9 HRX) | (go_at_call 29; refine (KT.out _ HRZ.out).mono ?_; rintro e y ⟨rfl, hRy, hgy⟩; have HRY := hide hRy; have HBY := hide (below_grownB HBZ.out hgy); clear hRy hgy HRZ) | (go_at_call 26; refine (KR.out _ HRY.out).mono ?_; rintro e u ⟨rfl, hRu, hgu⟩; have HRU := hide hRu; have HBU := hide (below_grownB HBY.out hgu); have u1 := hRu.at; clear hRu hgu HRY))
      go_step3
      first | refine mix_then rfl ?_ | refine mix_zero ?_ | refine mix_block rfl ?_
      go_wp2_with (fail)
      have x1 : u.cell? ⟨w.heap.size, 1, none⟩ = some (.int .i64 (p : Int)) := HRU.out.at
      refine Go.wp_mono (Q := noPanS _) ?_ noPanS_le
      refine wp_region_held_drew (S := fun W => W.cell? ⟨w.heap.size, 1, none⟩ = some (.int .i64 (p : Int))) (by kernel_rfl) x1 (fun hS => ?_)
      refine wpAnyH_take (i := 0) (v := .pointer (some ⟨w.heap.size, 1, none⟩)) rfl (by kernel_rfl) (by kernel_rfl) (by kernel_rfl) (fun _ _ _ h => h) (Or.inl ⟨by kernel_rfl, fun w' hw => by go_simp⟩) hS ?_
      refine wpAnyH_take (i := 1) (v := .int .i64 (p : Int)) rfl (by kernel_rfl) (by kernel_rfl) (by kernel_rfl) (fun _ _ _ h => h) (Or.inl ⟨by kernel_rfl, fun w' hw => by go_simp⟩) hS ?_
      refine wpAnyH_take (i := 2) (v := .agg #[.int .i64 70, .int .i64 (p : Int)]) rfl (by kernel_rfl) (by kernel_rfl) (by kernel_rfl) (fun _ _ _ h => h) (Or.inl ⟨by kernel_rfl, fun w' hw => by go_simp⟩) hS ?_
      refine wpAnyH_take (i := 5) (v := .slice none 0 0) rfl (by kernel_rfl) (by kernel_rfl) (by kernel_rfl) (fun _ _ _ h => h) (Or.inl ⟨by kernel_rfl, fun w' hw => by go_simp⟩) hS ?_
      refine wpAnyH_ready (rs := [3]) (by kernel_rfl) (by simp) ?_
      refine AllReadyH.cons rfl (fun K hK => ?_) AllReadyH.nil
      rw [if_pos (by kernel_rfl)]
      go_simp
      have hBA : Below u.heap.size u (u.alloc (.cells #[.int .i64 70, .int .i64 (p : Int)] 56)).drew := ((Below.refl _ u).alloc (Nat.le_refl _) _).drew
      have hS2 : (u.alloc (.cells #[.int .i64 70, .int .i64 (p : Int)] 56)).drew.cell? ⟨w.heap.size, 1, none⟩ = some (.int .i64 (p : Int)) := (hBA.cell (World.block_lt_of_cell? _ _ x1)).trans x1
      have hN : (u.alloc (.cells #[.int .i64 70, .int .i64 (p : Int)] 56)).drew.heap[u.heap.size]? = some (.cells #[.int .i64 70, .int .i64 (p : Int)] 56 (0, 0)) := heap_alloc_new u _
      refine hK.out _ _ hS2 (fun _ => ?_)
      clear hK K
      generalize (u.alloc (.cells #[.int .i64 70, .int .i64 (p : Int)] 56)).drew = Y at *
      refine wpAnyH_take (i := 4) (v := .iface 54 (.pointer (some ⟨u.heap.size, 0, none⟩))) rfl (by kernel_rfl) (by kernel_rfl) (by kernel_rfl) (fun _ _ _ h => h) (Or.inl ⟨by kernel_rfl, fun w' hw => by go_simp⟩) hS2 ?_
      refine wpAnyH_take (i := 6) (v := .iface 54 (.pointer (some ⟨u.heap.size, 0, none⟩))) rfl (by kernel_rfl) (by kernel_rfl) (by kernel_rfl) (fun _ _ _ h => h) (Or.inl ⟨by kernel_rfl, fun w' hw => by go_simp⟩) hS2 ?_
      refine wpAnyH_done (by kernel_rfl) (noPanS_normal ?_) _
      try simp only [Act.put, List.getElem_toArray, List.getElem_cons_zero, List.getElem_cons_succ, List.setIfInBounds_toArray, List.set_cons_zero, List.set_cons_succ]
      go_wp2_with (fail)
      rw [jumpA_ret]
      go_ret2
      exact ⟨u.heap.size, rfl, HBU.out.size, hN, bseq HBU.out hBA⟩
  · intro hst
    have HST := hide hst
    clear hst
    go_wp2_with (fail)
    refine wp_label ?_
    rename_i K9 hK9
    refine hK9 _ _ (HST.out _ _ ⟨_, _, _, _, _, _, _, _, _, _, _, _, _, _, _, _, _, _, _, _, _, _, _, _, _, _, _, _, _, _, _, _, _, _, _, _, _, _, _, _, _, _, _, _, _, _, _, _, _, _, _, _, _, _, _, _, _, _, _, _, _, _, _, _, _, rfl, 0, [], Nat.zero_le _, Nat.zero_le _, HRR.out.symm, HR0.out, World.ownsRow_nil _ _ _ _, HB0.out⟩)
set_option maxRecDepth 100000 in
set_option maxHeartbeats 4000000 in
theorem scan_long (s : ByteArray) (w : World) (hs : 16384 < s.size) (h2 : s.size ≤ 140737488355328) :
    Calls Tryz.prog 12 #[.string s] w fun e w' => ScPost (.inr (4, 0)) w e w' := by
  go_enter Tryz.func12, Tryz.ntmps12
  go_wp2_with (fail)
  refine wp_scope_mixR 0 (fun _ _ => False) (fun _ _ => 0) rfl (fun _ _ h => h.elim) (fun _ => ?_)
  go_wp2_with (fail)
  rw [jumpA_ret]
  go_ret2
  exact ⟨w.heap.size, rfl, Nat.le_refl _, heap_alloc_new w _, (Below.refl _ w).alloc (Nat.le_refl _) _⟩
end Go.Proofs.YtaljllbfedfpoaaGreatDoor
