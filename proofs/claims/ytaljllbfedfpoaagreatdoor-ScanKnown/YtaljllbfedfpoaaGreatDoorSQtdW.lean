/- Package scan: a quoted text is read. -/
import Derived.Test.YtaljllbfedfpoaaGreatDoorSQtdM
import Derived.Test.YtaljllbfedfpoaaGreatDoorSBld
namespace Go.Proofs.YtaljllbfedfpoaaGreatDoor
open Go.RowKit Go.Shelf
set_option linter.unusedVariables false

theorem Bd8.low {B nb : Nat} {l : List UInt8} {w w' : World} (h : Bd8 B nb l w) (hk : ∀ j, B ≤ j → j < w.heap.size → w'.heap[j]? = w.heap[j]?) : Bd8 B nb l w' := by
  rcases h with h | h
  · obtain ⟨hB, v, hb, hown, hne⟩ := h
    refine .inl ⟨hB, v, (hk nb hB (Array.getElem?_eq_some_iff.1 hb).1).trans hb, ⟨hown.1, ?_⟩, hne⟩
    rcases hown.2 with hn | ⟨g, cap, cur, fz, hv, hbg, hg, rest⟩
    · exact .inl hn
    · exact .inr ⟨g, cap, cur, fz, hv, hbg, (hk g hbg (Array.getElem?_eq_some_iff.1 hg).1).trans hg, rest⟩
  · obtain ⟨hB, v, hb, hown, hne⟩ := h
    refine .inr ⟨hB, v, (hk nb hB (Array.getElem?_eq_some_iff.1 hb).1).trans hb, ⟨hown.1, ?_⟩, hne⟩
    rcases hown.2 with hn | ⟨g, cap, cur, fz, hv, hbg, hg, rest⟩
    · exact .inl hn
    · exact .inr ⟨g, cap, cur, fz, hv, hbg, (hk g hbg (Array.getElem?_eq_some_iff.1 hg).1).trans hg, rest⟩
theorem Bd8.grown {B nb b : Nat} {l : List UInt8} {w w' : World} (h : Bd8 B nb l w) (hb : b < B) (g : w.grownBy w' (some b)) : Bd8 B nb l w' :=
  h.low (fun j hj hl => g.block j hl (fun e => by cases e; omega))
theorem Bd8.below {B nb : Nat} {l : List UInt8} {w w' : World} (h : Bd8 B nb l w) (g : Below w.heap.size w w') : Bd8 B nb l w' :=
  h.low (fun j hj hl => g.block j hl)
theorem grown_below {w x y : World} {r : Option Nat} {B : Nat} (h : w.grownBy x r) (hB : w.heap.size ≤ B) (k : Below B x y) : w.grownBy y r :=
  ⟨k.os.trans h.os, k.tape.trans h.tape, k.output.trans h.output, Nat.le_trans h.size k.size, fun j hj hr => (k.block j (by omega)).trans (h.block j hj hr)⟩
theorem Rd.below {w x : World} {b B : Nat} {s : ByteArray} {p : Nat} (h : Rd w b s p) (hb : b < B) (k : Below B w x) : Rd x b s p := (k.block b hb).trans h
theorem mix_then {c rest : Code} {P : Program} {Q : Exit → Act → World → Prop} {J : Act → World → Prop} {K : Act → World → Prop} {n l : Nat} {a : Act} {w : World} (hf : findLabel c (l + 1) = some rest) (h : rest.wp P (jumpA (mixJ c P Q J n) Q) a w) : Exit.then K (jumpA (mixJ c P Q J (n + 1)) Q) (.goto (l + 1)) a w := ⟨rest, hf, h⟩
theorem mix_zero {c : Code} {P : Program} {Q : Exit → Act → World → Prop} {J : Act → World → Prop} {K : Act → World → Prop} {n : Nat} {a : Act} {w : World} (h : J a w) : Exit.then K (jumpA (mixJ c P Q J n) Q) (.goto 0) a w := by
  show mixJ c P Q J n 0 a w
  cases n <;> (unfold mixJ; exact h)
theorem wp_scope_mixR {P : Program} {a : Act} {w : World} {Q : Exit → Act → World → Prop} {c R : Code} (n : Nat) (J : Act → World → Prop) (μ : Act → World → Nat) (hf0 : findLabel c 0 = some (Code.skip.seq R))
    (pass : ∀ a w, J a w → R.wp P (jumpA (mixJ c P Q (fun a' w' => J a' w' ∧ μ a' w' < μ a w) n) Q) a w)
    (first : (∀ a w, J a w → R.wp P (jumpA (mixJ c P Q J n) Q) a w) → c.wp P (jumpA (mixJ c P Q J n) Q) a w) : (Code.scope c).wp P Q a w := by
  refine wp_scope_mix n J μ hf0 (fun a w hJ => wp_seq (wp_skip (pass a w hJ))) (fun _ => first ?_)
  exact fun a w hJ => Code.wp_mono (jumpA_mono (mixJ_mono (fun _ _ h => h.1) n)) (pass a w hJ)
theorem Rd.lt {w : World} {b : Nat} {s : ByteArray} {p : Nat} (h : Rd w b s p) : b < w.heap.size := (Array.getElem?_eq_some_iff.1 h).1
/-- What holds at each part of a quoted text. -/
def QJ (w : World) (b : Nat) (s : ByteArray) (p : Nat) (T : List UInt8 × Nat × Bool) (a : Act) (wr : World) : Prop :=
  ∃ t1 t5 t6 t7 t8 t9 t10 t11 t12 t13 t14 t15 t16 t17 t18 t19 t20 t21 t22 t23 t24 t25 t26 t27 t28 t29 t30 t31 t32 t33 t34 t35 t36 t37 t38 t39 t40 t41 t42 t43 t44 t45 t46 t47 t48 t49 t50 t51 t52 t53 t54 t55 t56 t57 t58 t59 t60 t61 t62 t63 t64 t65 t66 t67 t68 t69 t70 t71 t72 t73 t74 t75 t76 t77 t78 t79 t80 t81 t82 t83 : Value, a = { tmps := #[.pointer (some ⟨b, 0, none⟩), t1, .string ⟨#[]⟩, .bool false, .pointer (some ⟨w.heap.size, 0, none⟩), t5, t6, t7, t8, t9, t10, t11, t12, t13, t14, t15, t16, t17, t18, t19, t20, t21, t22, t23, t24, t25, t26, t27, t28, t29, t30, t31, t32, t33, t34, t35, t36, t37, t38, t39, t40, t41, t42, t43, t44, t45, t46, t47, t48, t49, t50, t51, t52, t53, t54, t55, t56, t57, t58, t59, t60, t61, t62, t63, t64, t65, t66, t67, t68, t69, t70, t71, t72, t73, t74, t75, t76, t77, t78, t79, t80, t81, t82, t83], defers := [] } ∧
    ∃ (q : Nat) (acc : List UInt8), p ≤ q ∧ q ≤ s.size ∧ acc.length ≤ q ∧ T = (acc ++ (Qt ((bl s).drop q)).1, q - p + (Qt ((bl s).drop q)).2.1, (Qt ((bl s).drop q)).2.2) ∧
      Rd wr b s q ∧ Bd8 w.heap.size w.heap.size acc wr ∧ w.grownBy wr (some b)
set_option maxRecDepth 100000 in
set_option maxHeartbeats 8000000 in
theorem quoted_any (b : Nat) (s : ByteArray) (p : Nat) (w : World) (h : Rd w b s p) (hp : p ≤ s.size) (hs : s.size ≤ 140737488355328) :
    Calls Tryz.prog 32 #[.pointer (some ⟨b, 0, none⟩)] w fun e w' => e = .returned (.tuple #[.string (if (Qt ((bl s).drop p)).2.2 = true then ⟨(Qt ((bl s).drop p)).1.toArray⟩ else ⟨#[]⟩), .bool (Qt ((bl s).drop p)).2.2]) ∧ Rd w' b s (p + (Qt ((bl s).drop p)).2.1) ∧ w.grownBy w' (some b) := by
  have hb : b < w.heap.size := h.lt
  have hT0 : Qt ((bl s).drop p) = Qt ((bl s).drop p) := rfl
  generalize hTT : Qt ((bl s).drop p) = TT at hT0 ⊢
  obtain ⟨T, E, ok⟩ := TT
  simp only
  clear hT0
  go_enter Tryz.func32, Tryz.ntmps32
  go_wp2_with (fail)
  refine wp_scope_mixR 3 (QJ w b s p (T, E, ok)) (fun _ wr => s.size - (intOf ((wr.cell? ⟨b, 1, none⟩).getD undef)).toNat) rfl ?_ ?_
  · intro a wr hJ
    obtain ⟨t1, t5, t6, t7, t8, t9, t10, t11, t12, t13, t14, t15, t16, t17, t18, t19, t20, t21, t22, t23, t24, t25, t26, t27, t28, t29, t30, t31, t32, t33, t34, t35, t36, t37, t38, t39, t40, t41, t42, t43, t44, t45, t46, t47, t48, t49, t50, t51, t52, t53, t54, t55, t56, t57, t58, t59, t60, t61, t62, t63, t64, t65, t66, t67, t68, t69, t70, t71, t72, t73, t74, t75, t76, t77, t78, t79, t80, t81, t82, t83, rfl, q, acc, hpq, hqs, hal, hQ, hR, hBd, hG⟩ := hJ
    have HR := hide hR
    have HBd := hide hBd
    have HG := hide hG
    have HQ := hide hQ
    have hl0 : (0 < ((bl s).drop q).length ∧ by' ((bl s).drop q) 0 = 34) ↔ (q < s.size ∧ by' (bl s) q = 34) := by
      rw [List.length_drop, bl_len, by'_drop, Nat.add_zero]
      constructor
      · exact fun h => ⟨by omega, h.2⟩
      · exact fun h => ⟨by omega, h.2⟩
    have hmu : s.size - (intOf ((wr.cell? ⟨b, 1, none⟩).getD undef)).toNat = s.size - q := by rw [hR.at]; simp [intOf]
    rw [hmu]
    clear hR hBd hG hQ hmu
    by_cases c34 : q < s.size ∧ by' (bl s) q = 34
    · have e34 : isAt s q 34 = true := by unfold isAt; rw [← Bool.decide_and]; exact decide_eq_true c34
      have hQ := HQ.out
      rw [Qt_close (hl0.2 c34)] at hQ
      simp only [Prod.mk.injEq, List.append_nil] at hQ
      have HQ2 := hide hQ
      have HR0 := HR
      clear hQ hl0
      go_wp2_with (first | (go_at_call 29; refine (takes_yes b s q 34 _ HR0.out hqs hs e34).mono ?_; rintro e x ⟨rfl, hRx, hgx⟩; have HRX := hide hRx; have HGX := hide (grown_trans HG.out hgx); have HBX := hide (HBd.out.grown hb hgx); clear hRx hgx HR0) | (go_at_call 44; refine (bstring _ _ acc _ HBX.out HGX.out.size).mono ?_; rintro e y ⟨rfl, hBy, hby⟩; have HRY := hide (HRX.out.below hb hby); have HGY := hide (grown_below HGX.out (Nat.le_refl _) hby); clear hBy hby HBX))
      rw [jumpA_ret]
      go_ret2
      obtain ⟨hT, hE, hO⟩ := HQ2.out
      refine ⟨by rw [hT, hO]; rfl, ?_, HGY.out⟩
      rw [show p + E = q + 1 by omega]
      exact HRY.out
    have e34 : isAt s q 34 = false := by unfold isAt; rw [← Bool.decide_and]; exact decide_eq_false c34
    have n34 := fun h => c34 (hl0.1 h)
    have hxs : (s.extract q s.size).size ≤ 9223372036854775807 := by rw [ByteArray.size_extract]; omega
    have kf := fun W => first_any (s.extract q s.size) W hxs
    rw [bl_from] at kf
    obtain ⟨c, wd, r, hF⟩ : ∃ c wd r, firstV ((bl s).drop q) = (c, wd, r) := ⟨_, _, _, rfl⟩
    rw [hF] at kf
    simp only at kf
    have KF := hide kf
    clear kf hl0 hxs
    have HR0 := HR
    go_wp2_with (first | (go_at_call 29; refine (takes_no b s q 34 _ HR0.out hqs hs e34).mono ?_; rintro e x ⟨rfl, hRx, hgx⟩; have HRX := hide hRx; have HGX := hide (grown_trans HG.out hgx); have HBX := hide (HBd.out.grown hb hgx); clear hRx hgx HR0))
    refine Go.wp_mono (Q := noPanS _) ?_ noPanS_le
    refine wp_region_held_drew (S := fun W => Rd W b s q) (by kernel_rfl) HRX.out (fun hS => ?_)
    refine wpAnyH_take (i := 0) (v := .pointer (some ⟨b, 0, none⟩)) rfl (by kernel_rfl) (by kernel_rfl) (by kernel_rfl) (fun _ _ _ h => h) (Or.inl ⟨by kernel_rfl, fun w' hw => by (have z0 := Rd.text hw; have z1 := Rd.at hw; clear hw; go_simp)⟩) hS ?_
    refine wpAnyH_take (i := 1) (v := .pointer (some ⟨b, 0, none⟩)) rfl (by kernel_rfl) (by kernel_rfl) (by kernel_rfl) (fun _ _ _ h => h) (Or.inl ⟨by kernel_rfl, fun w' hw => by (have z0 := Rd.text hw; have z1 := Rd.at hw; clear hw; go_simp)⟩) hS ?_
    refine wpAnyH_take (i := 2) (v := .pointer (some ⟨b, 0, none⟩)) rfl (by kernel_rfl) (by kernel_rfl) (by kernel_rfl) (fun _ _ _ h => h) (Or.inl ⟨by kernel_rfl, fun w' hw => by (have z0 := Rd.text hw; have z1 := Rd.at hw; clear hw; go_simp)⟩) hS ?_
    refine wpAnyH_take (i := 3) (v := .string s) rfl (by kernel_rfl) (by kernel_rfl) (by kernel_rfl) (fun _ _ _ h => h) (Or.inl ⟨by kernel_rfl, fun w' hw => by (have z0 := Rd.text hw; have z1 := Rd.at hw; clear hw; go_simp)⟩) hS ?_
    refine wpAnyH_take (i := 4) (v := .pointer (some ⟨b, 0, none⟩)) rfl (by kernel_rfl) (by kernel_rfl) (by kernel_rfl) (fun _ _ _ h => h) (Or.inl ⟨by kernel_rfl, fun w' hw => by (have z0 := Rd.text hw; have z1 := Rd.at hw; clear hw; go_simp)⟩) hS ?_
    refine wpAnyH_take (i := 5) (v := .pointer (some ⟨b, 0, none⟩)) rfl (by kernel_rfl) (by kernel_rfl) (by kernel_rfl) (fun _ _ _ h => h) (Or.inl ⟨by kernel_rfl, fun w' hw => by (have z0 := Rd.text hw; have z1 := Rd.at hw; clear hw; go_simp)⟩) hS ?_
    refine wpAnyH_take (i := 6) (v := .pointer (some ⟨b, 1, none⟩)) rfl (by kernel_rfl) (by kernel_rfl) (by kernel_rfl) (fun _ _ _ h => h) (Or.inl ⟨by kernel_rfl, fun w' hw => by (have z0 := Rd.text hw; have z1 := Rd.at hw; clear hw; go_simp)⟩) hS ?_
    refine wpAnyH_take (i := 7) (v := .int .i64 (q : Int)) rfl (by kernel_rfl) (by kernel_rfl) (by kernel_rfl) (fun _ _ _ h => h) (Or.inl ⟨by kernel_rfl, fun w' hw => by (have z0 := Rd.text hw; have z1 := Rd.at hw; clear hw; go_simp)⟩) hS ?_
    refine wpAnyH_take (i := 8) (v := .string (s.extract q s.size)) rfl (by kernel_rfl) (by kernel_rfl) (by kernel_rfl) (fun _ _ _ h => h) (Or.inl ⟨by kernel_rfl, fun w' hw => by (have z0 := Rd.text hw; have z1 := Rd.at hw; clear hw; go_simp)⟩) hS ?_
    refine wpAnyH_ready (rs := [9]) (by kernel_rfl) (by simp) ?_
    refine AllReadyH.cons rfl (fun K hK => ?_) AllReadyH.nil
    rw [if_pos (by kernel_rfl)]
    go_simp
    go_wp2_with (go_at_call 40; refine (KF.out _).mono ?_; rintro e y ⟨rfl, hby⟩)
    have hby' : Below x.heap.size x y := bseq (Below.refl x.heap.size x).drew hby
    have hS2 : Rd y b s q := HRX.out.below HRX.out.lt hby'
    have HRY := hide hS2
    have HGY := hide (grown_below HGX.out HGX.out.size hby')
    have HBY := hide (HBX.out.below hby')
    refine hK.out _ _ hS2 (fun _ => ?_)
    clear hK K hby hby'
    refine wpAnyH_take (i := 10) (v := .tuple #[.int .i32 c, .int .i64 wd, .bool r]) rfl (by kernel_rfl) (by kernel_rfl) (by kernel_rfl) (fun _ _ _ h => h) (Or.inl ⟨by kernel_rfl, fun w' hw => by (have z0 := Rd.text hw; have z1 := Rd.at hw; clear hw; go_simp)⟩) hS2 ?_
    refine wpAnyH_take (i := 11) (v := .int .i32 c) rfl (by kernel_rfl) (by kernel_rfl) (by kernel_rfl) (fun _ _ _ h => h) (Or.inl ⟨by kernel_rfl, fun w' hw => by (have z0 := Rd.text hw; have z1 := Rd.at hw; clear hw; go_simp)⟩) hS2 ?_
    refine wpAnyH_take (i := 12) (v := .int .i64 wd) rfl (by kernel_rfl) (by kernel_rfl) (by kernel_rfl) (fun _ _ _ h => h) (Or.inl ⟨by kernel_rfl, fun w' hw => by (have z0 := Rd.text hw; have z1 := Rd.at hw; clear hw; go_simp)⟩) hS2 ?_
    refine wpAnyH_take (i := 13) (v := .bool r) rfl (by kernel_rfl) (by kernel_rfl) (by kernel_rfl) (fun _ _ _ h => h) (Or.inl ⟨by kernel_rfl, fun w' hw => by (have z0 := Rd.text hw; have z1 := Rd.at hw; clear hw; go_simp)⟩) hS2 ?_
    refine wpAnyH_take (i := 14) (v := .int .i32 c) rfl (by kernel_rfl) (by kernel_rfl) (by kernel_rfl) (fun _ _ _ h => h) (Or.inl ⟨by kernel_rfl, fun w' hw => by (have z0 := Rd.text hw; have z1 := Rd.at hw; clear hw; go_simp)⟩) hS2 ?_
    refine wpAnyH_take (i := 15) (v := .int .i64 wd) rfl (by kernel_rfl) (by kernel_rfl) (by kernel_rfl) (fun _ _ _ h => h) (Or.inl ⟨by kernel_rfl, fun w' hw => by (have z0 := Rd.text hw; have z1 := Rd.at hw; clear hw; go_simp)⟩) hS2 ?_
    refine wpAnyH_take (i := 16) (v := .bool r) rfl (by kernel_rfl) (by kernel_rfl) (by kernel_rfl) (fun _ _ _ h => h) (Or.inl ⟨by kernel_rfl, fun w' hw => by (have z0 := Rd.text hw; have z1 := Rd.at hw; clear hw; go_simp)⟩) hS2 ?_
    refine wpAnyH_done (by kernel_rfl) (noPanS_normal ?_) _
    try simp only [Act.put, List.getElem_toArray, List.getElem_cons_zero, List.getElem_cons_succ, List.setIfInBounds_toArray, List.set_cons_zero, List.set_cons_succ]
    by_cases hc : c = 92
    · subst hc
      have hlp : 1 ≤ (s.extract q s.size).size := by
        rw [ByteArray.size_extract]
        by_cases e : q < s.size
        · omega
        · have e2 : (bl s).drop q = [] := List.drop_eq_nil_of_le (by rw [bl_len]; omega)
          rw [e2] at hF
          simp [firstV] at hF
      have kes := fun W => escaped_any (s.extract q s.size) W hlp (by rw [ByteArray.size_extract]; omega)
      rw [bl_from] at kes
      obtain ⟨X, n, hX⟩ : ∃ X n, escL ((bl s).drop q) = (X, n) := ⟨_, _, rfl⟩
      rw [hX] at kes
      simp only at kes
      have KES := hide kes
      clear kes
      by_cases hn : n = 0
      · subst hn
        have hQ := HQ.out
        rw [Qt_none n34 (by rw [hF]) (by rw [hX])] at hQ
        simp only [Prod.mk.injEq, List.append_nil, Nat.add_zero] at hQ
        have HQ2 := hide hQ
        clear hQ HQ
        go_wp2_with (fail)
        go_step3
        first | refine mix_then rfl ?_ | refine mix_zero ?_
        go_wp2_with (fail)
        refine Go.wp_mono (Q := noPanS _) ?_ noPanS_le
        refine wp_region_held_drew (S := fun W => Rd W b s q) (by kernel_rfl) HRY.out (fun hS => ?_)
        refine wpAnyH_take (i := 0) (v := .pointer (some ⟨b, 0, none⟩)) rfl (by kernel_rfl) (by kernel_rfl) (by kernel_rfl) (fun _ _ _ h => h) (Or.inl ⟨by kernel_rfl, fun w' hw => by (have z0 := Rd.text hw; have z1 := Rd.at hw; clear hw; go_simp)⟩) hS ?_
        refine wpAnyH_take (i := 1) (v := .pointer (some ⟨b, 0, none⟩)) rfl (by kernel_rfl) (by kernel_rfl) (by kernel_rfl) (fun _ _ _ h => h) (Or.inl ⟨by kernel_rfl, fun w' hw => by (have z0 := Rd.text hw; have z1 := Rd.at hw; clear hw; go_simp)⟩) hS ?_
        refine wpAnyH_take (i := 2) (v := .pointer (some ⟨b, 0, none⟩)) rfl (by kernel_rfl) (by kernel_rfl) (by kernel_rfl) (fun _ _ _ h => h) (Or.inl ⟨by kernel_rfl, fun w' hw => by (have z0 := Rd.text hw; have z1 := Rd.at hw; clear hw; go_simp)⟩) hS ?_
        refine wpAnyH_take (i := 3) (v := .string s) rfl (by kernel_rfl) (by kernel_rfl) (by kernel_rfl) (fun _ _ _ h => h) (Or.inl ⟨by kernel_rfl, fun w' hw => by (have z0 := Rd.text hw; have z1 := Rd.at hw; clear hw; go_simp)⟩) hS ?_
        refine wpAnyH_take (i := 4) (v := .pointer (some ⟨b, 0, none⟩)) rfl (by kernel_rfl) (by kernel_rfl) (by kernel_rfl) (fun _ _ _ h => h) (Or.inl ⟨by kernel_rfl, fun w' hw => by (have z0 := Rd.text hw; have z1 := Rd.at hw; clear hw; go_simp)⟩) hS ?_
        refine wpAnyH_take (i := 5) (v := .pointer (some ⟨b, 0, none⟩)) rfl (by kernel_rfl) (by kernel_rfl) (by kernel_rfl) (fun _ _ _ h => h) (Or.inl ⟨by kernel_rfl, fun w' hw => by (have z0 := Rd.text hw; have z1 := Rd.at hw; clear hw; go_simp)⟩) hS ?_
        refine wpAnyH_take (i := 6) (v := .pointer (some ⟨b, 1, none⟩)) rfl (by kernel_rfl) (by kernel_rfl) (by kernel_rfl) (fun _ _ _ h => h) (Or.inl ⟨by kernel_rfl, fun w' hw => by (have z0 := Rd.text hw; have z1 := Rd.at hw; clear hw; go_simp)⟩) hS ?_
        refine wpAnyH_take (i := 7) (v := .int .i64 (q : Int)) rfl (by kernel_rfl) (by kernel_rfl) (by kernel_rfl) (fun _ _ _ h => h) (Or.inl ⟨by kernel_rfl, fun w' hw => by (have z0 := Rd.text hw; have z1 := Rd.at hw; clear hw; go_simp)⟩) hS ?_
        refine wpAnyH_take (i := 8) (v := .string (s.extract q s.size)) rfl (by kernel_rfl) (by kernel_rfl) (by kernel_rfl) (fun _ _ _ h => h) (Or.inl ⟨by kernel_rfl, fun w' hw => by (have z0 := Rd.text hw; have z1 := Rd.at hw; clear hw; go_simp)⟩) hS ?_
        refine wpAnyH_ready (rs := [9]) (by kernel_rfl) (by simp) ?_
        refine AllReadyH.cons rfl (fun K hK => ?_) AllReadyH.nil
        rw [if_pos (by kernel_rfl)]
        go_simp
        go_wp2_with (go_at_call 58; refine (KES.out _).mono ?_; rintro e z ⟨rfl, hbz⟩)
        have hbz' : Below y.heap.size y z := bseq (Below.refl y.heap.size y).drew hbz
        have hS3 : Rd z b s q := HRY.out.below HRY.out.lt hbz'
        have HRZ := hide hS3
        have HGZ := hide (grown_below HGY.out HGY.out.size hbz')
        have HBZ := hide (HBY.out.below hbz')
        refine hK.out _ _ hS3 (fun _ => ?_)
        clear hK K hbz hbz'
        refine wpAnyH_take (i := 10) (v := .tuple #[.string ⟨X.toArray⟩, .int .i64 0]) rfl (by kernel_rfl) (by kernel_rfl) (by kernel_rfl) (fun _ _ _ h => h) (Or.inl ⟨by kernel_rfl, fun w' hw => by (have z0 := Rd.text hw; have z1 := Rd.at hw; clear hw; go_simp)⟩) hS3 ?_
        refine wpAnyH_take (i := 11) (v := .string ⟨X.toArray⟩) rfl (by kernel_rfl) (by kernel_rfl) (by kernel_rfl) (fun _ _ _ h => h) (Or.inl ⟨by kernel_rfl, fun w' hw => by (have z0 := Rd.text hw; have z1 := Rd.at hw; clear hw; go_simp)⟩) hS3 ?_
        refine wpAnyH_take (i := 12) (v := .int .i64 0) rfl (by kernel_rfl) (by kernel_rfl) (by kernel_rfl) (fun _ _ _ h => h) (Or.inl ⟨by kernel_rfl, fun w' hw => by (have z0 := Rd.text hw; have z1 := Rd.at hw; clear hw; go_simp)⟩) hS3 ?_
        refine wpAnyH_take (i := 13) (v := .string ⟨X.toArray⟩) rfl (by kernel_rfl) (by kernel_rfl) (by kernel_rfl) (fun _ _ _ h => h) (Or.inl ⟨by kernel_rfl, fun w' hw => by (have z0 := Rd.text hw; have z1 := Rd.at hw; clear hw; go_simp)⟩) hS3 ?_
        refine wpAnyH_take (i := 14) (v := .int .i64 0) rfl (by kernel_rfl) (by kernel_rfl) (by kernel_rfl) (fun _ _ _ h => h) (Or.inl ⟨by kernel_rfl, fun w' hw => by (have z0 := Rd.text hw; have z1 := Rd.at hw; clear hw; go_simp)⟩) hS3 ?_
        refine wpAnyH_done (by kernel_rfl) (noPanS_normal ?_) _
        try simp only [Act.put, List.getElem_toArray, List.getElem_cons_zero, List.getElem_cons_succ, List.setIfInBounds_toArray, List.set_cons_zero, List.set_cons_succ]
        go_wp2_with (fail)
        go_step3
        first | refine mix_then rfl ?_ | refine mix_zero ?_
        go_wp2_with (fail)
        rw [jumpA_ret]
        go_ret2
        obtain ⟨hT, hE, hO⟩ := HQ2.out
        refine ⟨by rw [hO]; rfl, ?_, HGZ.out⟩
        rw [show p + E = q by omega]
        exact HRZ.out
      · have hQ := HQ.out
        rw [Qt_esc n34 (by rw [hF]) (by rw [hX]; exact hn)] at hQ
        rw [hX, List.drop_drop] at hQ
        have HQ2 := hide hQ
        have hXs := escL_small ((bl s).drop q)
        rw [hX, List.length_drop, bl_len] at hXs
        have hwl : acc.length + (⟨X.toArray⟩ : ByteArray).size ≤ 140737488355328 := by
          have : (⟨X.toArray⟩ : ByteArray).size = X.length := by simp [ByteArray.size]
          simp only at hXs
          omega
        simp only at hXs
        have hn0 : ((n : Int) == 0) = false := beq_eq_false_iff_ne.2 (by omega)
        clear hQ HQ
        go_wp2_with (fail)
        go_step3
        first | refine mix_then rfl ?_ | refine mix_zero ?_
        go_wp2_with (fail)
        refine Go.wp_mono (Q := noPanS _) ?_ noPanS_le
        refine wp_region_held_drew (S := fun W => Rd W b s q) (by kernel_rfl) HRY.out (fun hS => ?_)
        refine wpAnyH_take (i := 0) (v := .pointer (some ⟨b, 0, none⟩)) rfl (by kernel_rfl) (by kernel_rfl) (by kernel_rfl) (fun _ _ _ h => h) (Or.inl ⟨by kernel_rfl, fun w' hw => by (have z0 := Rd.text hw; have z1 := Rd.at hw; clear hw; go_simp)⟩) hS ?_
        refine wpAnyH_take (i := 1) (v := .pointer (some ⟨b, 0, none⟩)) rfl (by kernel_rfl) (by kernel_rfl) (by kernel_rfl) (fun _ _ _ h => h) (Or.inl ⟨by kernel_rfl, fun w' hw => by (have z0 := Rd.text hw; have z1 := Rd.at hw; clear hw; go_simp)⟩) hS ?_
        refine wpAnyH_take (i := 2) (v := .pointer (some ⟨b, 0, none⟩)) rfl (by kernel_rfl) (by kernel_rfl) (by kernel_rfl) (fun _ _ _ h => h) (Or.inl ⟨by kernel_rfl, fun w' hw => by (have z0 := Rd.text hw; have z1 := Rd.at hw; clear hw; go_simp)⟩) hS ?_
        refine wpAnyH_take (i := 3) (v := .string s) rfl (by kernel_rfl) (by kernel_rfl) (by kernel_rfl) (fun _ _ _ h => h) (Or.inl ⟨by kernel_rfl, fun w' hw => by (have z0 := Rd.text hw; have z1 := Rd.at hw; clear hw; go_simp)⟩) hS ?_
        refine wpAnyH_take (i := 4) (v := .pointer (some ⟨b, 0, none⟩)) rfl (by kernel_rfl) (by kernel_rfl) (by kernel_rfl) (fun _ _ _ h => h) (Or.inl ⟨by kernel_rfl, fun w' hw => by (have z0 := Rd.text hw; have z1 := Rd.at hw; clear hw; go_simp)⟩) hS ?_
        refine wpAnyH_take (i := 5) (v := .pointer (some ⟨b, 0, none⟩)) rfl (by kernel_rfl) (by kernel_rfl) (by kernel_rfl) (fun _ _ _ h => h) (Or.inl ⟨by kernel_rfl, fun w' hw => by (have z0 := Rd.text hw; have z1 := Rd.at hw; clear hw; go_simp)⟩) hS ?_
        refine wpAnyH_take (i := 6) (v := .pointer (some ⟨b, 1, none⟩)) rfl (by kernel_rfl) (by kernel_rfl) (by kernel_rfl) (fun _ _ _ h => h) (Or.inl ⟨by kernel_rfl, fun w' hw => by (have z0 := Rd.text hw; have z1 := Rd.at hw; clear hw; go_simp)⟩) hS ?_
        refine wpAnyH_take (i := 7) (v := .int .i64 (q : Int)) rfl (by kernel_rfl) (by kernel_rfl) (by kernel_rfl) (fun _ _ _ h => h) (Or.inl ⟨by kernel_rfl, fun w' hw => by (have z0 := Rd.text hw; have z1 := Rd.at hw; clear hw; go_simp)⟩) hS ?_
        refine wpAnyH_take (i := 8) (v := .string (s.extract q s.size)) rfl (by kernel_rfl) (by kernel_rfl) (by kernel_rfl) (fun _ _ _ h => h) (Or.inl ⟨by kernel_rfl, fun w' hw => by (have z0 := Rd.text hw; have z1 := Rd.at hw; clear hw; go_simp)⟩) hS ?_
        refine wpAnyH_ready (rs := [9]) (by kernel_rfl) (by simp) ?_
        refine AllReadyH.cons rfl (fun K hK => ?_) AllReadyH.nil
        rw [if_pos (by kernel_rfl)]
        go_simp
        go_wp2_with (go_at_call 58; refine (KES.out _).mono ?_; rintro e z ⟨rfl, hbz⟩)
        have hbz' : Below y.heap.size y z := bseq (Below.refl y.heap.size y).drew hbz
        have hS3 : Rd z b s q := HRY.out.below HRY.out.lt hbz'
        have HRZ := hide hS3
        have HGZ := hide (grown_below HGY.out HGY.out.size hbz')
        have HBZ := hide (HBY.out.below hbz')
        refine hK.out _ _ hS3 (fun _ => ?_)
        clear hK K hbz hbz'
        refine wpAnyH_take (i := 10) (v := .tuple #[.string ⟨X.toArray⟩, .int .i64 (n : Int)]) rfl (by kernel_rfl) (by kernel_rfl) (by kernel_rfl) (fun _ _ _ h => h) (Or.inl ⟨by kernel_rfl, fun w' hw => by (have z0 := Rd.text hw; have z1 := Rd.at hw; clear hw; go_simp)⟩) hS3 ?_
        refine wpAnyH_take (i := 11) (v := .string ⟨X.toArray⟩) rfl (by kernel_rfl) (by kernel_rfl) (by kernel_rfl) (fun _ _ _ h => h) (Or.inl ⟨by kernel_rfl, fun w' hw => by (have z0 := Rd.text hw; have z1 := Rd.at hw; clear hw; go_simp)⟩) hS3 ?_
        refine wpAnyH_take (i := 12) (v := .int .i64 (n : Int)) rfl (by kernel_rfl) (by kernel_rfl) (by kernel_rfl) (fun _ _ _ h => h) (Or.inl ⟨by kernel_rfl, fun w' hw => by (have z0 := Rd.text hw; have z1 := Rd.at hw; clear hw; go_simp)⟩) hS3 ?_
        refine wpAnyH_take (i := 13) (v := .string ⟨X.toArray⟩) rfl (by kernel_rfl) (by kernel_rfl) (by kernel_rfl) (fun _ _ _ h => h) (Or.inl ⟨by kernel_rfl, fun w' hw => by (have z0 := Rd.text hw; have z1 := Rd.at hw; clear hw; go_simp)⟩) hS3 ?_
        refine wpAnyH_take (i := 14) (v := .int .i64 (n : Int)) rfl (by kernel_rfl) (by kernel_rfl) (by kernel_rfl) (fun _ _ _ h => h) (Or.inl ⟨by kernel_rfl, fun w' hw => by (have z0 := Rd.text hw; have z1 := Rd.at hw; clear hw; go_simp)⟩) hS3 ?_
        refine wpAnyH_done (by kernel_rfl) (noPanS_normal ?_) _
        try simp only [Act.put, List.getElem_toArray, List.getElem_cons_zero, List.getElem_cons_succ, List.setIfInBounds_toArray, List.set_cons_zero, List.set_cons_succ]
        go_wp2_with (first | (go_at_call 42; refine (bwriteString _ _ acc _ _ HBZ.out hwl HGZ.out.size).mono ?_; rintro e v ⟨⟨ev, rfl⟩, hBv, hbv⟩; have HRV := hide (HRZ.out.below hb hbv); have HGV := hide (grown_below HGZ.out (Nat.le_refl _) hbv); have HBV := hide hBv; have v1 := HRV.out.at; have v2 := HRV.out.frz; clear hBv hbv HBZ))
        go_step3
        first | refine mix_then rfl ?_ | refine mix_zero ?_
        have hcast : (q : Int) + (n : Int) = ((q + n : Nat) : Int) := by push_cast; rfl
        rw [hcast]
        have hR9 := HRV.out.set (q + n)
        refine ⟨⟨_, _, _, _, _, _, _, _, _, _, _, _, _, _, _, _, _, _, _, _, _, _, _, _, _, _, _, _, _, _, _, _, _, _, _, _, _, _, _, _, _, _, _, _, _, _, _, _, _, _, _, _, _, _, _, _, _, _, _, _, _, _, _, _, _, _, _, _, _, _, _, _, _, _, _, _, _, _, _, _, rfl, q + n, acc ++ X, by omega, by omega, by rw [List.length_append]; omega, ?_, hR9, HBV.out.grown hb (grown_set _ _ _ _), grown_trans HGV.out (grown_set _ _ _ _)⟩, ?_⟩
        · rw [HQ2.out, List.append_assoc]
          have e : ∀ z, q - p + (n + z) = q + n - p + z := fun z => by omega
          rw [e]
        · rw [hR9.at]
          simp only [Option.getD_some, intOf, Int.toNat_natCast]
          omega
    · by_cases hr : r = true ∧ plainK c = true
      · have hne := first_ne (l := (bl s).drop q) (by rw [hF]; exact hr.1)
        have hF2 := hF
        rw [firstV_ne hne] at hF2
        simp only [Prod.mk.injEq] at hF2
        obtain ⟨_, hwd, _⟩ := hF2
        have hm1 := cw_pos ((bl s).drop q)
        have hm2 := cw_len _ hne
        have hQ := HQ.out
        rw [Qt_char n34 (by rw [hF]; exact hc) (by rw [hF]; exact hr)] at hQ
        rw [List.length_drop, bl_len] at hm2
        generalize cw ((bl s).drop q) = m at *
        subst hwd
        rw [List.drop_drop] at hQ
        have hx : (s.extract q (q + m)).data.toList = ((bl s).drop q).take m := by
          have := bl_extract s q (q + m)
          rw [Nat.add_sub_cancel_left] at this
          exact this
        have hwr : IntKind.i64.wrap ((q : Int) + (m : Int)) = (q : Int) + (m : Int) := by simp only [IntKind.wrap_i64]; omega
        have b1 : 0 ≤ (q : Int) + (m : Int) ∧ (q : Int) + (m : Int) ≤ (s.size : Int) := by omega
        have b2 : (q : Int) ≤ (q : Int) + (m : Int) := by omega
        have b3 : ((q : Int) + (m : Int)).toNat = q + m := by omega
        have hxl : (((bl s).drop q).take m).length ≤ m := List.length_take_le _ _
        have hwl : acc.length + (s.extract q (q + m)).size ≤ 140737488355328 := by rw [ByteArray.size_extract]; omega
        have kw := fun W h1 h2 => bwriteString w.heap.size w.heap.size acc (s.extract q (q + m)) W h1 hwl h2
        rw [hx] at kw
        have KW := hide kw
        generalize ((bl s).drop q).take m = X at *
        have HQ2 := hide hQ
        have KP := hide (fun W => plain_any c W)
        rw [hr.2] at KP
        have hc0 : (c == 92) = false := beq_eq_false_iff_ne.2 hc
        have hrt := hr.1
        subst hrt
        clear hQ HQ kw hx
        go_wp2_with (first | (go_at_call 41; refine (KP.out _).mono ?_; rintro e y2 ⟨rfl, hy2⟩; subst hy2))
        refine Go.wp_mono (Q := noPanS _) ?_ noPanS_le
        refine wp_region_held_drew (S := fun W => Rd W b s q) (by kernel_rfl) HRY.out (fun hS => ?_)
        refine wpAnyH_take (i := 0) (v := .pointer (some ⟨b, 0, none⟩)) rfl (by kernel_rfl) (by kernel_rfl) (by kernel_rfl) (fun _ _ _ h => h) (Or.inl ⟨by kernel_rfl, fun w' hw => by (have z0 := Rd.text hw; have z1 := Rd.at hw; clear hw; go_simp)⟩) hS ?_
        refine wpAnyH_take (i := 1) (v := .pointer (some ⟨b, 0, none⟩)) rfl (by kernel_rfl) (by kernel_rfl) (by kernel_rfl) (fun _ _ _ h => h) (Or.inl ⟨by kernel_rfl, fun w' hw => by (have z0 := Rd.text hw; have z1 := Rd.at hw; clear hw; go_simp)⟩) hS ?_
        refine wpAnyH_take (i := 2) (v := .pointer (some ⟨b, 0, none⟩)) rfl (by kernel_rfl) (by kernel_rfl) (by kernel_rfl) (fun _ _ _ h => h) (Or.inl ⟨by kernel_rfl, fun w' hw => by (have z0 := Rd.text hw; have z1 := Rd.at hw; clear hw; go_simp)⟩) hS ?_
        refine wpAnyH_take (i := 3) (v := .string s) rfl (by kernel_rfl) (by kernel_rfl) (by kernel_rfl) (fun _ _ _ h => h) (Or.inl ⟨by kernel_rfl, fun w' hw => by (have z0 := Rd.text hw; have z1 := Rd.at hw; clear hw; go_simp)⟩) hS ?_
        refine wpAnyH_take (i := 4) (v := .pointer (some ⟨b, 0, none⟩)) rfl (by kernel_rfl) (by kernel_rfl) (by kernel_rfl) (fun _ _ _ h => h) (Or.inl ⟨by kernel_rfl, fun w' hw => by (have z0 := Rd.text hw; have z1 := Rd.at hw; clear hw; go_simp)⟩) hS ?_
        refine wpAnyH_take (i := 5) (v := .pointer (some ⟨b, 0, none⟩)) rfl (by kernel_rfl) (by kernel_rfl) (by kernel_rfl) (fun _ _ _ h => h) (Or.inl ⟨by kernel_rfl, fun w' hw => by (have z0 := Rd.text hw; have z1 := Rd.at hw; clear hw; go_simp)⟩) hS ?_
        refine wpAnyH_take (i := 6) (v := .pointer (some ⟨b, 1, none⟩)) rfl (by kernel_rfl) (by kernel_rfl) (by kernel_rfl) (fun _ _ _ h => h) (Or.inl ⟨by kernel_rfl, fun w' hw => by (have z0 := Rd.text hw; have z1 := Rd.at hw; clear hw; go_simp)⟩) hS ?_
        refine wpAnyH_take (i := 7) (v := .int .i64 (q : Int)) rfl (by kernel_rfl) (by kernel_rfl) (by kernel_rfl) (fun _ _ _ h => h) (Or.inl ⟨by kernel_rfl, fun w' hw => by (have z0 := Rd.text hw; have z1 := Rd.at hw; clear hw; go_simp)⟩) hS ?_
        refine wpAnyH_take (i := 8) (v := .pointer (some ⟨b, 0, none⟩)) rfl (by kernel_rfl) (by kernel_rfl) (by kernel_rfl) (fun _ _ _ h => h) (Or.inl ⟨by kernel_rfl, fun w' hw => by (have z0 := Rd.text hw; have z1 := Rd.at hw; clear hw; go_simp)⟩) hS ?_
        refine wpAnyH_take (i := 9) (v := .pointer (some ⟨b, 0, none⟩)) rfl (by kernel_rfl) (by kernel_rfl) (by kernel_rfl) (fun _ _ _ h => h) (Or.inl ⟨by kernel_rfl, fun w' hw => by (have z0 := Rd.text hw; have z1 := Rd.at hw; clear hw; go_simp)⟩) hS ?_
        refine wpAnyH_take (i := 10) (v := .pointer (some ⟨b, 1, none⟩)) rfl (by kernel_rfl) (by kernel_rfl) (by kernel_rfl) (fun _ _ _ h => h) (Or.inl ⟨by kernel_rfl, fun w' hw => by (have z0 := Rd.text hw; have z1 := Rd.at hw; clear hw; go_simp)⟩) hS ?_
        refine wpAnyH_take (i := 11) (v := .int .i64 (q : Int)) rfl (by kernel_rfl) (by kernel_rfl) (by kernel_rfl) (fun _ _ _ h => h) (Or.inl ⟨by kernel_rfl, fun w' hw => by (have z0 := Rd.text hw; have z1 := Rd.at hw; clear hw; go_simp)⟩) hS ?_
        refine wpAnyH_take (i := 12) (v := .int .i64 (m : Int)) rfl (by kernel_rfl) (by kernel_rfl) (by kernel_rfl) (fun _ _ _ h => h) (Or.inl ⟨by kernel_rfl, fun w' hw => by (have z0 := Rd.text hw; have z1 := Rd.at hw; clear hw; go_simp)⟩) hS ?_
        refine wpAnyH_take (i := 13) (v := .int .i64 ((q : Int) + (m : Int))) rfl (by kernel_rfl) (by kernel_rfl) (by kernel_rfl) (fun _ _ _ h => h) (Or.inl ⟨by kernel_rfl, fun w' hw => by (have z0 := Rd.text hw; have z1 := Rd.at hw; clear hw; go_simp; try exact hwr)⟩) hS ?_
        refine wpAnyH_take (i := 14) (v := .string (s.extract q (q + m))) rfl (by kernel_rfl) (by kernel_rfl) (by kernel_rfl) (fun _ _ _ h => h) (Or.inl ⟨by kernel_rfl, fun w' hw => by (have z0 := Rd.text hw; have z1 := Rd.at hw; clear hw; go_simp; try rw [if_pos b1, if_pos b2, b3])⟩) hS ?_
        refine wpAnyH_ready (rs := [15]) (by kernel_rfl) (by simp) ?_
        refine AllReadyH.cons rfl (fun K hK => ?_) AllReadyH.nil
        rw [if_pos (by kernel_rfl)]
        go_simp
        have KW2 := hide (KW.out y2.drew HBY.out HGY.out.size)
        go_wp2_with (go_at_call 42; refine (KW2.out).mono ?_; rintro e v ⟨⟨ev, rfl⟩, hBv, hbv⟩)
        replace hbv := (Below.refl w.heap.size y2).drew.trans hbv
        have HRV := hide (HRY.out.below hb hbv)
        have HGV := hide (grown_below HGY.out (Nat.le_refl _) hbv)
        have HBV := hide hBv
        have v1 := HRV.out.at
        have v2 := HRV.out.frz
        refine hK.out _ _ HRV.out (fun _ => ?_)
        clear hK K hBv hbv HBY
        refine wpAnyH_done (by kernel_rfl) (noPanS_normal ?_) _
        try simp only [Act.put, List.getElem_toArray, List.getElem_cons_zero, List.getElem_cons_succ, List.setIfInBounds_toArray, List.set_cons_zero, List.set_cons_succ]
        go_wp2_with (fail)
        go_step3
        first | refine mix_then rfl ?_ | refine mix_zero ?_
        have hcast : (q : Int) + (m : Int) = ((q + m : Nat) : Int) := by push_cast; rfl
        rw [hcast]
        have hR9 := HRV.out.set (q + m)
        refine ⟨⟨_, _, _, _, _, _, _, _, _, _, _, _, _, _, _, _, _, _, _, _, _, _, _, _, _, _, _, _, _, _, _, _, _, _, _, _, _, _, _, _, _, _, _, _, _, _, _, _, _, _, _, _, _, _, _, _, _, _, _, _, _, _, _, _, _, _, _, _, _, _, _, _, _, _, _, _, _, _, _, _, rfl, q + m, acc ++ X, by omega, by omega, by rw [List.length_append]; omega, ?_, hR9, HBV.out.grown hb (grown_set _ _ _ _), grown_trans HGV.out (grown_set _ _ _ _)⟩, ?_⟩
        · rw [HQ2.out, List.append_assoc]
          have e : ∀ z, q - p + (m + z) = q + m - p + z := fun z => by omega
          rw [e]
        · rw [hR9.at]
          simp only [Option.getD_some, intOf, Int.toNat_natCast]
          omega
      · have hQ := HQ.out
        rw [Qt_fault n34 (by rw [hF]; exact hc) (by rw [hF]; exact hr)] at hQ
        simp only [Prod.mk.injEq, List.append_nil, Nat.add_zero] at hQ
        have HQ2 := hide hQ
        have KP := hide (fun W => plain_any c W)
        have hc0 : (c == 92) = false := beq_eq_false_iff_ne.2 hc
        clear hQ HQ
        cases r with
        | false =>
          go_wp2_with (fail)
          go_step3
          first | refine mix_then rfl ?_ | refine mix_zero ?_
          go_wp2_with (fail)
          rw [jumpA_ret]
          go_ret2
          obtain ⟨hT, hE, hO⟩ := HQ2.out
          refine ⟨by rw [hO]; rfl, ?_, HGY.out⟩
          rw [show p + E = q by omega]
          exact HRY.out
        | true =>
          have hpl : plainK c = false := by
            cases h : plainK c with
            | false => rfl
            | true => exact absurd ⟨rfl, h⟩ hr
          rw [hpl] at KP
          go_wp2_with (first | (go_at_call 41; refine (KP.out _).mono ?_; rintro e y2 ⟨rfl, hy2⟩; subst hy2))
          go_step3
          first | refine mix_then rfl ?_ | refine mix_zero ?_
          go_wp2_with (fail)
          rw [jumpA_ret]
          go_ret2
          obtain ⟨hT, hE, hO⟩ := HQ2.out
          refine ⟨by rw [hO]; rfl, ?_, HGY.out⟩
          rw [show p + E = q by omega]
          exact HRY.out
  · intro hst
    have HST := hide hst
    clear hst
    have c0 := h.text
    go_wp2_with (fail)
    refine wp_label ?_
    rename_i K9 hK9
    refine hK9 _ _ (HST.out _ _ ⟨_, _, _, _, _, _, _, _, _, _, _, _, _, _, _, _, _, _, _, _, _, _, _, _, _, _, _, _, _, _, _, _, _, _, _, _, _, _, _, _, _, _, _, _, _, _, _, _, _, _, _, _, _, _, _, _, _, _, _, _, _, _, _, _, _, _, _, _, _, _, _, _, _, _, _, _, _, _, _, _, rfl, p, [], Nat.le_refl _, hp, Nat.zero_le _, ?_, ?_, bfresh w, ?_⟩)
    · rw [← hTT]; simp
    · exact h.below hb ((Below.refl _ _).alloc (Nat.le_refl _) _)
    · exact grown_below (grown_drewN w 0 _) (Nat.le_refl _) ((Below.refl _ _).alloc (Nat.le_refl _) _)
end Go.Proofs.YtaljllbfedfpoaaGreatDoor
