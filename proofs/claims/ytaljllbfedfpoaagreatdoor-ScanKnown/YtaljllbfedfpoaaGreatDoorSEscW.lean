/- Package scan: what an escape stands for. -/
import Derived.Test.YtaljllbfedfpoaaGreatDoorSEscA
namespace Go.Proofs.YtaljllbfedfpoaaGreatDoor
open Go.RowKit Go.Shelf
set_option linter.unusedVariables false
theorem encode1G (z : Int) (b : Nat) (W : World) (h : SlU W (some ⟨b, 0, none⟩) [z]) : Calls Tryz.prog 77 #[.slice (some ⟨b, 0, none⟩) 1 1] W fun e w' => e = .returned (.string ⟨(Lib.encodeRune z).toArray⟩) ∧ w' = W := by
  have := encode_any (some ⟨b, 0, none⟩) 1 [z] _ h
  have e : runesBytes [z] = ⟨(Lib.encodeRune z).toArray⟩ := by
    unfold runesBytes
    rw [List.foldl_cons, List.foldl_nil, encode_eqS]
    exact ByteArray.empty_append
  rw [e] at this
  exact this
set_option maxRecDepth 100000 in
set_option maxHeartbeats 8000000 in
theorem esc_u_ok (t : ByteArray) (w : World) (ht : 1 ≤ t.size) (hs : t.size ≤ 140737488355328) (c117 : 1 < t.size ∧ by' (bl t) 1 = 117) (c123 : 2 < t.size ∧ by' (bl t) 2 = 123) (hk : 1 ≤ (dgF 6 0 ((bl t).drop 3)).2) (c125 : 3 + (dgF 6 0 ((bl t).drop 3)).2 < t.size ∧ by' (bl t) (3 + (dgF 6 0 ((bl t).drop 3)).2) = 125) (hv : Lib.validRune ((dgF 6 0 ((bl t).drop 3)).1 : Int) = true) :
    Calls Tryz.prog 58 #[.string t] w fun e w' => e = .returned (.tuple #[.string ⟨(escL (bl t)).1.toArray⟩, .int .i64 ((escL (bl t)).2 : Int)]) ∧ Below w.heap.size w w' := by
  have hR0 : Rd (w.alloc (.cells #[.string t, .int .i64 1] 58)) w.heap.size t 1 := heap_alloc_new w _
  have h0 : Below w.heap.size w (w.alloc (.cells #[.string t, .int .i64 1] 58)) := (Below.refl _ _).alloc (Nat.le_refl _) _
  have HR := hide hR0
  have HG := hide (grown_drewN (w.alloc (.cells #[.string t, .int .i64 1] 58)) 0 (some w.heap.size))
  have hp1 : 1 ≤ t.size := ht
  have NO : ∀ m, ¬ (1 < t.size ∧ by' (bl t) 1 = m) → isAt t 1 m = false := fun m h => by
    unfold isAt
    rw [← Bool.decide_and]
    exact decide_eq_false h
  have YES : ∀ m, (1 < t.size ∧ by' (bl t) 1 = m) → isAt t 1 m = true := fun m h => by
    unfold isAt
    rw [← Bool.decide_and]
    exact decide_eq_true h
  clear hR0
  have e34 : isAt t 1 34 = false := NO 34 (by first | assumption | omega)
  have e92 : isAt t 1 92 = false := NO 92 (by first | assumption | omega)
  have e110 : isAt t 1 110 = false := NO 110 (by first | assumption | omega)
  have e114 : isAt t 1 114 = false := NO 114 (by first | assumption | omega)
  have e116 : isAt t 1 116 = false := NO 116 (by first | assumption | omega)
  have e120 : isAt t 1 120 = false := NO 120 (by first | assumption | omega)
  have e117 : isAt t 1 117 = true := YES 117 c117
  have hp2 : 2 ≤ t.size := c117.1
  have hE : escL (bl t) = (if 2 < t.size ∧ by' (bl t) 2 = 123 then
          if 1 ≤ (dgF 6 0 ((bl t).drop 3)).2 ∧ (3 + (dgF 6 0 ((bl t).drop 3)).2 < t.size ∧ by' (bl t) (3 + (dgF 6 0 ((bl t).drop 3)).2) = 125) ∧ Lib.validRune ((dgF 6 0 ((bl t).drop 3)).1 : Int) = true then (Lib.encodeRune ((dgF 6 0 ((bl t).drop 3)).1 : Int), 3 + (dgF 6 0 ((bl t).drop 3)).2 + 1) else ([], 0)
        else ([], 0)) := by
    unfold escL
    rw [bl_len, if_pos c117.1, c117.2]; rfl
  rw [hE]
  have ISN : ∀ p m, ¬ (p < t.size ∧ by' (bl t) p = m) → isAt t p m = false := fun p m h => by
    unfold isAt
    rw [← Bool.decide_and]
    exact decide_eq_false h
  have ISY : ∀ p m, (p < t.size ∧ by' (bl t) p = m) → isAt t p m = true := fun p m h => by
    unfold isAt
    rw [← Bool.decide_and]
    exact decide_eq_true h
  clear NO YES hE
  have e123 := ISY 2 123 c123
  have hp30 : 3 ≤ t.size := c123.1
  rw [if_pos c123]
  have hdl := dgF_le 6 0 ((bl t).drop 3)
  rw [List.length_drop, bl_len] at hdl
  have kd := fun x (h : Rd x w.heap.size t 3) => digits_any w.heap.size t 3 1 6 x h hp30 hs (by omega) (by omega)
  generalize dgF 6 0 ((bl t).drop 3) = D at *
  obtain ⟨v, k⟩ := D
  simp only at kd hdl hk c125 hv ⊢
  have hp3 : 3 + k ≤ t.size := by omega
  have KDG := hide kd
  clear kd hdl
  have hd : decide (1 ≤ k) = true := decide_eq_true hk
  rw [hd] at KDG
  have e125 := ISY (3 + k) 125 c125
  have kv := fun w' => valid_any (v : Int) w'
  rw [hv] at kv
  have KV := hide kv
  rw [if_pos ⟨hk, c125, hv⟩]
  have ke := fun b W h => encode1G (v : Int) b W h
  obtain ⟨U, hU⟩ : ∃ U : ByteArray, ⟨(Lib.encodeRune (v : Int)).toArray⟩ = U := ⟨_, rfl⟩
  simp only at ke ⊢
  rw [hU] at ke ⊢
  have KE := hide ke
  clear kv ke hU ISN ISY
  go_enter Tryz.func58, Tryz.ntmps58
  go_wp2_with (fail)
  refine wp_scope_n 3 ?_
  go_wp2_with (first | (go_at_call 29; refine (takes_no w.heap.size t 1 _ _ HR.out hp1 hs (by first | exact e34 | exact e92 | exact e110 | exact e114 | exact e116 | exact e120)).mono ?_; rintro e x ⟨rfl, hRn, hgn⟩; replace HR := hide hRn; replace HG := hide (grown_trans HG.out hgn); clear hRn hgn) | (go_at_call 29; refine (takes_yes w.heap.size t 1 _ _ HR.out hp1 hs e117).mono ?_; rintro e x ⟨rfl, hRn, hgn⟩; have HR2 := hide hRn; have HG2 := hide (grown_trans HG.out hgn); have d1 := hRn.at; clear hRn hgn))
  go_step3
  first | refine goto_then rfl ?_ | refine goto_plain rfl ?_ | refine goto_block rfl ?_
  go_wp2_with (first | (go_at_call 29; refine (takes_yes w.heap.size t 2 123 _ HR2.out hp2 hs e123).mono ?_; rintro e x2 ⟨rfl, hRn, hgn⟩; have HR3 := hide hRn; have HG3 := hide (grown_trans HG2.out hgn); clear hRn hgn HR2) | (go_at_call 75; refine (KDG.out _ HR3.out).mono ?_; rintro e y ⟨rfl, hRy, hgy⟩; have HRY := hide hRy; have HGY := hide (grown_trans HG3.out hgy); clear hRy hgy HR3) | (go_at_call 29; refine (takes_yes w.heap.size t (3 + k) 125 _ HRY.out hp3 hs e125).mono ?_; rintro e z ⟨rfl, hRz, hgz⟩; have HRZ := hide hRz; have HGZ := hide (grown_trans HGY.out hgz); have z1 := hRz.at; clear hRz hgz HRY) | (go_at_call 76; refine (KV.out _).mono ?_; rintro e z2 ⟨rfl, hz2⟩; subst hz2))
  push_cast at z1
  refine Go.wp_mono (Q := noPanS _) ?_ noPanS_le
  refine wp_region_held_drew (S := fun W => W.cell? ⟨w.heap.size, 1, none⟩ = some (.int .i64 (3 + (k : Int) + 1))) (by kernel_rfl) z1 (fun hS => ?_)
  refine wpAnyH_take (i := 0) (v := .int .i32 (v : Int)) rfl (by kernel_rfl) (by kernel_rfl) (by kernel_rfl) (fun _ _ _ h => h) (Or.inl ⟨by kernel_rfl, fun w' hw => by go_simp⟩) hS ?_
  refine wpAnyH_take (i := 3) (v := .pointer (some ⟨w.heap.size, 1, none⟩)) rfl (by kernel_rfl) (by kernel_rfl) (by kernel_rfl) (fun _ _ _ h => h) (Or.inl ⟨by kernel_rfl, fun w' hw => by go_simp⟩) hS ?_
  refine wpAnyH_take (i := 4) (v := .int .i64 (3 + (k : Int) + 1)) rfl (by kernel_rfl) (by kernel_rfl) (by kernel_rfl) (fun _ _ _ h => h) (Or.inl ⟨by kernel_rfl, fun w' hw => by go_simp⟩) hS ?_
  refine wpAnyH_ready (rs := [1]) (by kernel_rfl) (by simp) ?_
  refine AllReadyH.cons rfl (fun K hK => ?_) AllReadyH.nil
  rw [if_pos (by kernel_rfl)]
  go_simp
  have hBA : Below z2.heap.size z2 (z2.alloc (.cells #[.int .i32 (v : Int)] 21)).drew := ((Below.refl _ z2).alloc (Nat.le_refl _) _).drew
  have hS2 : (z2.alloc (.cells #[.int .i32 (v : Int)] 21)).drew.cell? ⟨w.heap.size, 1, none⟩ = some (.int .i64 (3 + (k : Int) + 1)) := (hBA.cell (World.block_lt_of_cell? _ _ z1)).trans z1
  have hSl : SlU (z2.alloc (.cells #[.int .i32 (v : Int)] 21)).drew (some ⟨z2.heap.size, 0, none⟩) [(v : Int)] := one_sluS z2 (v : Int)
  have ke2 := KE.out z2.heap.size _ hSl
  refine hK.out _ _ hS2 (fun _ => ?_)
  clear hK K hSl
  have KE2 := hide ke2
  clear ke2
  generalize (z2.alloc (.cells #[.int .i32 (v : Int)] 21)).drew = Y at *
  refine wpAnyH_ready (rs := [2]) (by kernel_rfl) (by simp) ?_
  refine AllReadyH.cons rfl (fun K hK => ?_) AllReadyH.nil
  rw [if_pos (by kernel_rfl)]
  go_simp
  go_wp2_with (go_at_call 77; refine (KE2.out).mono ?_; rintro e Y2 ⟨rfl, hY2⟩; subst hY2)
  refine hK.out _ _ hS2 (fun _ => ?_)
  clear hK K
  refine wpAnyH_take (i := 5) (v := .string U) rfl (by kernel_rfl) (by kernel_rfl) (by kernel_rfl) (fun _ _ _ h => h) (Or.inl ⟨by kernel_rfl, fun w' hw => by go_simp⟩) hS2 ?_
  refine wpAnyH_take (i := 6) (v := .int .i64 (3 + (k : Int) + 1)) rfl (by kernel_rfl) (by kernel_rfl) (by kernel_rfl) (fun _ _ _ h => h) (Or.inl ⟨by kernel_rfl, fun w' hw => by go_simp⟩) hS2 ?_
  refine wpAnyH_done (by kernel_rfl) (noPanS_normal ?_) _
  try simp only [Act.put, List.getElem_toArray, List.getElem_cons_zero, List.getElem_cons_succ, List.setIfInBounds_toArray, List.set_cons_zero, List.set_cons_succ]
  go_wp2_with (fail)
  rw [jumpA_ret]
  go_ret2
  refine ⟨by push_cast; rfl, ?_⟩
  exact bseq (h0.grown HGZ.out h0.size (fun k e => by cases e; exact Nat.le_refl _)) hBA
end Go.Proofs.YtaljllbfedfpoaaGreatDoor
