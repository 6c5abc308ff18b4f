/- Package scan: what an escape stands for. -/
import Derived.Test.YtaljllbfedfpoaaGreatDoorSEscA
namespace Go.Proofs.YtaljllbfedfpoaaGreatDoor
open Go.RowKit Go.Shelf
set_option linter.unusedVariables false
set_option maxRecDepth 100000 in
set_option maxHeartbeats 8000000 in
theorem esc_34 (t : ByteArray) (w : World) (ht : 1 ≤ t.size) (hs : t.size ≤ 140737488355328) (c34 : 1 < t.size ∧ by' (bl t) 1 = 34) :
    Calls Tryz.prog 58 #[.string t] w fun e w' => e = .returned (.tuple #[.string ⟨(escL (bl t)).1.toArray⟩, .int .i64 ((escL (bl t)).2 : Int)]) ∧ Below w.heap.size w w' := by
  have hR0 : Rd (w.alloc (.cells #[.string t, .int .i64 1] 58)) w.heap.size t 1 := heap_alloc_new w _
  have h0 : Below w.heap.size w (w.alloc (.cells #[.string t, .int .i64 1] 58)) := (Below.refl _ _).alloc (Nat.le_refl _) _
  have HR := hide hR0
  have HG := hide (grown_drewN (w.alloc (.cells #[.string t, .int .i64 1] 58)) 0 (some w.heap.size))
  have hp1 : 1 ≤ t.size := ht
  have NO : ∀ m, ¬ (1 < t.size ∧ by' (bl t) 1 = m) → isAt t 1 m = false := fun m h => by
    unfold isAt
    rw [← Bool.decide_and]
    exact decide_eq_false h
  have YES : ∀ m, (1 < t.size ∧ by' (bl t) 1 = m) → isAt t 1 m = true := fun m h => by
    unfold isAt
    rw [← Bool.decide_and]
    exact decide_eq_true h
  clear hR0
  rw [escL_34 c34]
  have e34 : isAt t 1 34 = true := YES 34 c34
  clear NO YES
  go_enter Tryz.func58, Tryz.ntmps58
  go_wp2_with (fail)
  refine wp_scope_n 3 ?_
  go_wp2_with (first | (go_at_call 29; refine (takes_yes w.heap.size t 1 _ _ HR.out hp1 hs e34).mono ?_; rintro e x ⟨rfl, hRn, hgn⟩; have HR2 := hide hRn; have HG2 := hide (grown_trans HG.out hgn); have d1 := hRn.at; clear hRn hgn))
  go_quiet (fail)
  go_wp2_with (fail)
  rw [jumpA_ret]
  go_ret2
  refine ⟨rfl, ?_⟩
  exact below_drewN (h0.grown HG2.out h0.size (fun k e => by cases e; exact Nat.le_refl _)) nq
set_option maxRecDepth 100000 in
set_option maxHeartbeats 8000000 in
theorem esc_92 (t : ByteArray) (w : World) (ht : 1 ≤ t.size) (hs : t.size ≤ 140737488355328) (c92 : 1 < t.size ∧ by' (bl t) 1 = 92) :
    Calls Tryz.prog 58 #[.string t] w fun e w' => e = .returned (.tuple #[.string ⟨(escL (bl t)).1.toArray⟩, .int .i64 ((escL (bl t)).2 : Int)]) ∧ Below w.heap.size w w' := by
  have hR0 : Rd (w.alloc (.cells #[.string t, .int .i64 1] 58)) w.heap.size t 1 := heap_alloc_new w _
  have h0 : Below w.heap.size w (w.alloc (.cells #[.string t, .int .i64 1] 58)) := (Below.refl _ _).alloc (Nat.le_refl _) _
  have HR := hide hR0
  have HG := hide (grown_drewN (w.alloc (.cells #[.string t, .int .i64 1] 58)) 0 (some w.heap.size))
  have hp1 : 1 ≤ t.size := ht
  have NO : ∀ m, ¬ (1 < t.size ∧ by' (bl t) 1 = m) → isAt t 1 m = false := fun m h => by
    unfold isAt
    rw [← Bool.decide_and]
    exact decide_eq_false h
  have YES : ∀ m, (1 < t.size ∧ by' (bl t) 1 = m) → isAt t 1 m = true := fun m h => by
    unfold isAt
    rw [← Bool.decide_and]
    exact decide_eq_true h
  clear hR0
  rw [escL_92 c92]
  have e34 : isAt t 1 34 = false := NO 34 (by first | assumption | omega)
  have e92 : isAt t 1 92 = true := YES 92 c92
  clear NO YES
  go_enter Tryz.func58, Tryz.ntmps58
  go_wp2_with (fail)
  refine wp_scope_n 3 ?_
  go_wp2_with (first | (go_at_call 29; refine (takes_no w.heap.size t 1 _ _ HR.out hp1 hs (by first | exact e34)).mono ?_; rintro e x ⟨rfl, hRn, hgn⟩; replace HR := hide hRn; replace HG := hide (grown_trans HG.out hgn); clear hRn hgn) | (go_at_call 29; refine (takes_yes w.heap.size t 1 _ _ HR.out hp1 hs e92).mono ?_; rintro e x ⟨rfl, hRn, hgn⟩; have HR2 := hide hRn; have HG2 := hide (grown_trans HG.out hgn); have d1 := hRn.at; clear hRn hgn))
  go_quiet (fail)
  go_wp2_with (fail)
  rw [jumpA_ret]
  go_ret2
  refine ⟨rfl, ?_⟩
  exact below_drewN (h0.grown HG2.out h0.size (fun k e => by cases e; exact Nat.le_refl _)) nq
set_option maxRecDepth 100000 in
set_option maxHeartbeats 8000000 in
theorem esc_110 (t : ByteArray) (w : World) (ht : 1 ≤ t.size) (hs : t.size ≤ 140737488355328) (c110 : 1 < t.size ∧ by' (bl t) 1 = 110) :
    Calls Tryz.prog 58 #[.string t] w fun e w' => e = .returned (.tuple #[.string ⟨(escL (bl t)).1.toArray⟩, .int .i64 ((escL (bl t)).2 : Int)]) ∧ Below w.heap.size w w' := by
  have hR0 : Rd (w.alloc (.cells #[.string t, .int .i64 1] 58)) w.heap.size t 1 := heap_alloc_new w _
  have h0 : Below w.heap.size w (w.alloc (.cells #[.string t, .int .i64 1] 58)) := (Below.refl _ _).alloc (Nat.le_refl _) _
  have HR := hide hR0
  have HG := hide (grown_drewN (w.alloc (.cells #[.string t, .int .i64 1] 58)) 0 (some w.heap.size))
  have hp1 : 1 ≤ t.size := ht
  have NO : ∀ m, ¬ (1 < t.size ∧ by' (bl t) 1 = m) → isAt t 1 m = false := fun m h => by
    unfold isAt
    rw [← Bool.decide_and]
    exact decide_eq_false h
  have YES : ∀ m, (1 < t.size ∧ by' (bl t) 1 = m) → isAt t 1 m = true := fun m h => by
    unfold isAt
    rw [← Bool.decide_and]
    exact decide_eq_true h
  clear hR0
  rw [escL_110 c110]
  have e34 : isAt t 1 34 = false := NO 34 (by first | assumption | omega)
  have e92 : isAt t 1 92 = false := NO 92 (by first | assumption | omega)
  have e110 : isAt t 1 110 = true := YES 110 c110
  clear NO YES
  go_enter Tryz.func58, Tryz.ntmps58
  go_wp2_with (fail)
  refine wp_scope_n 3 ?_
  go_wp2_with (first | (go_at_call 29; refine (takes_no w.heap.size t 1 _ _ HR.out hp1 hs (by first | exact e34 | exact e92)).mono ?_; rintro e x ⟨rfl, hRn, hgn⟩; replace HR := hide hRn; replace HG := hide (grown_trans HG.out hgn); clear hRn hgn) | (go_at_call 29; refine (takes_yes w.heap.size t 1 _ _ HR.out hp1 hs e110).mono ?_; rintro e x ⟨rfl, hRn, hgn⟩; have HR2 := hide hRn; have HG2 := hide (grown_trans HG.out hgn); have d1 := hRn.at; clear hRn hgn))
  go_quiet (fail)
  go_wp2_with (fail)
  rw [jumpA_ret]
  go_ret2
  refine ⟨rfl, ?_⟩
  exact below_drewN (h0.grown HG2.out h0.size (fun k e => by cases e; exact Nat.le_refl _)) nq
set_option maxRecDepth 100000 in
set_option maxHeartbeats 8000000 in
theorem esc_114 (t : ByteArray) (w : World) (ht : 1 ≤ t.size) (hs : t.size ≤ 140737488355328) (c114 : 1 < t.size ∧ by' (bl t) 1 = 114) :
    Calls Tryz.prog 58 #[.string t] w fun e w' => e = .returned (.tuple #[.string ⟨(escL (bl t)).1.toArray⟩, .int .i64 ((escL (bl t)).2 : Int)]) ∧ Below w.heap.size w w' := by
  have hR0 : Rd (w.alloc (.cells #[.string t, .int .i64 1] 58)) w.heap.size t 1 := heap_alloc_new w _
  have h0 : Below w.heap.size w (w.alloc (.cells #[.string t, .int .i64 1] 58)) := (Below.refl _ _).alloc (Nat.le_refl _) _
  have HR := hide hR0
  have HG := hide (grown_drewN (w.alloc (.cells #[.string t, .int .i64 1] 58)) 0 (some w.heap.size))
  have hp1 : 1 ≤ t.size := ht
  have NO : ∀ m, ¬ (1 < t.size ∧ by' (bl t) 1 = m) → isAt t 1 m = false := fun m h => by
    unfold isAt
    rw [← Bool.decide_and]
    exact decide_eq_false h
  have YES : ∀ m, (1 < t.size ∧ by' (bl t) 1 = m) → isAt t 1 m = true := fun m h => by
    unfold isAt
    rw [← Bool.decide_and]
    exact decide_eq_true h
  clear hR0
  rw [escL_114 c114]
  have e34 : isAt t 1 34 = false := NO 34 (by first | assumption | omega)
  have e92 : isAt t 1 92 = false := NO 92 (by first | assumption | omega)
  have e110 : isAt t 1 110 = false := NO 110 (by first | assumption | omega)
  have e114 : isAt t 1 114 = true := YES 114 c114
  clear NO YES
  go_enter Tryz.func58, Tryz.ntmps58
  go_wp2_with (fail)
  refine wp_scope_n 3 ?_
  go_wp2_with (first | (go_at_call 29; refine (takes_no w.heap.size t 1 _ _ HR.out hp1 hs (by first | exact e34 | exact e92 | exact e110)).mono ?_; rintro e x ⟨rfl, hRn, hgn⟩; replace HR := hide hRn; replace HG := hide (grown_trans HG.out hgn); clear hRn hgn) | (go_at_call 29; refine (takes_yes w.heap.size t 1 _ _ HR.out hp1 hs e114).mono ?_; rintro e x ⟨rfl, hRn, hgn⟩; have HR2 := hide hRn; have HG2 := hide (grown_trans HG.out hgn); have d1 := hRn.at; clear hRn hgn))
  go_quiet (fail)
  go_wp2_with (fail)
  rw [jumpA_ret]
  go_ret2
  refine ⟨rfl, ?_⟩
  exact below_drewN (h0.grown HG2.out h0.size (fun k e => by cases e; exact Nat.le_refl _)) nq
set_option maxRecDepth 100000 in
set_option maxHeartbeats 8000000 in
theorem esc_116 (t : ByteArray) (w : World) (ht : 1 ≤ t.size) (hs : t.size ≤ 140737488355328) (c116 : 1 < t.size ∧ by' (bl t) 1 = 116) :
    Calls Tryz.prog 58 #[.string t] w fun e w' => e = .returned (.tuple #[.string ⟨(escL (bl t)).1.toArray⟩, .int .i64 ((escL (bl t)).2 : Int)]) ∧ Below w.heap.size w w' := by
  have hR0 : Rd (w.alloc (.cells #[.string t, .int .i64 1] 58)) w.heap.size t 1 := heap_alloc_new w _
  have h0 : Below w.heap.size w (w.alloc (.cells #[.string t, .int .i64 1] 58)) := (Below.refl _ _).alloc (Nat.le_refl _) _
  have HR := hide hR0
  have HG := hide (grown_drewN (w.alloc (.cells #[.string t, .int .i64 1] 58)) 0 (some w.heap.size))
  have hp1 : 1 ≤ t.size := ht
  have NO : ∀ m, ¬ (1 < t.size ∧ by' (bl t) 1 = m) → isAt t 1 m = false := fun m h => by
    unfold isAt
    rw [← Bool.decide_and]
    exact decide_eq_false h
  have YES : ∀ m, (1 < t.size ∧ by' (bl t) 1 = m) → isAt t 1 m = true := fun m h => by
    unfold isAt
    rw [← Bool.decide_and]
    exact decide_eq_true h
  clear hR0
  rw [escL_116 c116]
  have e34 : isAt t 1 34 = false := NO 34 (by first | assumption | omega)
  have e92 : isAt t 1 92 = false := NO 92 (by first | assumption | omega)
  have e110 : isAt t 1 110 = false := NO 110 (by first | assumption | omega)
  have e114 : isAt t 1 114 = false := NO 114 (by first | assumption | omega)
  have e116 : isAt t 1 116 = true := YES 116 c116
  clear NO YES
  go_enter Tryz.func58, Tryz.ntmps58
  go_wp2_with (fail)
  refine wp_scope_n 3 ?_
  go_wp2_with (first | (go_at_call 29; refine (takes_no w.heap.size t 1 _ _ HR.out hp1 hs (by first | exact e34 | exact e92 | exact e110 | exact e114)).mono ?_; rintro e x ⟨rfl, hRn, hgn⟩; replace HR := hide hRn; replace HG := hide (grown_trans HG.out hgn); clear hRn hgn) | (go_at_call 29; refine (takes_yes w.heap.size t 1 _ _ HR.out hp1 hs e116).mono ?_; rintro e x ⟨rfl, hRn, hgn⟩; have HR2 := hide hRn; have HG2 := hide (grown_trans HG.out hgn); have d1 := hRn.at; clear hRn hgn))
  go_quiet (fail)
  go_wp2_with (fail)
  rw [jumpA_ret]
  go_ret2
  refine ⟨rfl, ?_⟩
  exact below_drewN (h0.grown HG2.out h0.size (fun k e => by cases e; exact Nat.le_refl _)) nq
set_option maxRecDepth 100000 in
set_option maxHeartbeats 8000000 in
theorem esc_120 (t : ByteArray) (w : World) (ht : 1 ≤ t.size) (hs : t.size ≤ 140737488355328) (c120 : 1 < t.size ∧ by' (bl t) 1 = 120) :
    Calls Tryz.prog 58 #[.string t] w fun e w' => e = .returned (.tuple #[.string ⟨(escL (bl t)).1.toArray⟩, .int .i64 ((escL (bl t)).2 : Int)]) ∧ Below w.heap.size w w' := by
  have hR0 : Rd (w.alloc (.cells #[.string t, .int .i64 1] 58)) w.heap.size t 1 := heap_alloc_new w _
  have h0 : Below w.heap.size w (w.alloc (.cells #[.string t, .int .i64 1] 58)) := (Below.refl _ _).alloc (Nat.le_refl _) _
  have HR := hide hR0
  have HG := hide (grown_drewN (w.alloc (.cells #[.string t, .int .i64 1] 58)) 0 (some w.heap.size))
  have hp1 : 1 ≤ t.size := ht
  have NO : ∀ m, ¬ (1 < t.size ∧ by' (bl t) 1 = m) → isAt t 1 m = false := fun m h => by
    unfold isAt
    rw [← Bool.decide_and]
    exact decide_eq_false h
  have YES : ∀ m, (1 < t.size ∧ by' (bl t) 1 = m) → isAt t 1 m = true := fun m h => by
    unfold isAt
    rw [← Bool.decide_and]
    exact decide_eq_true h
  clear hR0
  have e34 : isAt t 1 34 = false := NO 34 (by first | assumption | omega)
  have e92 : isAt t 1 92 = false := NO 92 (by first | assumption | omega)
  have e110 : isAt t 1 110 = false := NO 110 (by first | assumption | omega)
  have e114 : isAt t 1 114 = false := NO 114 (by first | assumption | omega)
  have e116 : isAt t 1 116 = false := NO 116 (by first | assumption | omega)
  have e120 : isAt t 1 120 = true := YES 120 c120
  clear NO YES
  have hp2 : 2 ≤ t.size := c120.1
  have kd := fun x (h : Rd x w.heap.size t 2) => digits_any w.heap.size t 2 2 2 x h hp2 hs (by omega) (by omega)
  have hE : escL (bl t) = (if 2 ≤ (dgF 2 0 ((bl t).drop 2)).2 then ([((dgF 2 0 ((bl t).drop 2)).1).toUInt8], 2 + (dgF 2 0 ((bl t).drop 2)).2) else ([], 0)) := by
    unfold escL
    rw [bl_len, if_pos c120.1, c120.2]; rfl
  rw [hE]
  generalize dgF 2 0 ((bl t).drop 2) = D at *
  obtain ⟨v, k⟩ := D
  simp only at kd ⊢
  have KDG := hide kd
  clear kd hE
  by_cases hk : 2 ≤ k
  · have hd : decide (2 ≤ k) = true := decide_eq_true hk
    rw [if_pos hk]
    rw [hd] at KDG
    have hwu0 : IntKind.u8.wrap (v : Int) = ((v.toUInt8).toNat : Int) := by rw [IntKind.wrap_u8']; simp [Nat.toUInt8, UInt8.toNat_ofNat']
    obtain ⟨c8, hc8⟩ : ∃ c8, v.toUInt8 = c8 := ⟨_, rfl⟩
    rw [hc8] at hwu0 ⊢
    have HWU := hide hwu0
    clear hc8 hwu0
    go_enter Tryz.func58, Tryz.ntmps58
    go_wp2_with (fail)
    refine wp_scope_n 3 ?_
    go_wp2_with (first | (go_at_call 29; refine (takes_no w.heap.size t 1 _ _ HR.out hp1 hs (by first | exact e34 | exact e92 | exact e110 | exact e114 | exact e116)).mono ?_; rintro e x ⟨rfl, hRn, hgn⟩; replace HR := hide hRn; replace HG := hide (grown_trans HG.out hgn); clear hRn hgn) | (go_at_call 29; refine (takes_yes w.heap.size t 1 _ _ HR.out hp1 hs e120).mono ?_; rintro e x ⟨rfl, hRn, hgn⟩; have HR2 := hide hRn; have HG2 := hide (grown_trans HG.out hgn); have d1 := hRn.at; clear hRn hgn))
    go_step3
    first | refine goto_then rfl ?_ | refine goto_plain rfl ?_ | refine goto_block rfl ?_
    go_wp2_with (first | (go_at_call 75; refine (KDG.out _ HR2.out).mono ?_; rintro e y ⟨rfl, hRy, hgy⟩; have HRY := hide hRy; have HGY := hide (grown_trans HG2.out hgy); have y1 := hRy.at; clear hRy hgy))
    have hwu := HWU.out
    push_cast at y1
    refine Go.wp_mono (Q := noPanS _) ?_ noPanS_le
    refine wp_region_held_drew (S := fun W => W.cell? ⟨w.heap.size, 1, none⟩ = some (.int .i64 (2 + (k : Int)))) (by kernel_rfl) y1 (fun hS => ?_)
    refine wpAnyH_take (i := 0) (v := .int .i32 (v : Int)) rfl (by kernel_rfl) (by kernel_rfl) (by kernel_rfl) (fun _ _ _ h => h) (Or.inl ⟨by kernel_rfl, fun w' hw => by go_simp⟩) hS ?_
    refine wpAnyH_take (i := 1) (v := .int .u8 (c8.toNat : Int)) rfl (by kernel_rfl) (by kernel_rfl) (by kernel_rfl) (fun _ _ _ h => h) (Or.inl ⟨by kernel_rfl, fun w' hw => by go_simp⟩) hS ?_
    refine wpAnyH_take (i := 4) (v := .pointer (some ⟨w.heap.size, 1, none⟩)) rfl (by kernel_rfl) (by kernel_rfl) (by kernel_rfl) (fun _ _ _ h => h) (Or.inl ⟨by kernel_rfl, fun w' hw => by go_simp⟩) hS ?_
    refine wpAnyH_take (i := 5) (v := .int .i64 (2 + (k : Int))) rfl (by kernel_rfl) (by kernel_rfl) (by kernel_rfl) (fun _ _ _ h => h) (Or.inl ⟨by kernel_rfl, fun w' hw => by go_simp⟩) hS ?_
    refine wpAnyH_ready (rs := [2]) (by kernel_rfl) (by simp) ?_
    refine AllReadyH.cons rfl (fun K hK => ?_) AllReadyH.nil
    rw [if_pos (by kernel_rfl)]
    go_simp
    have hBA : Below y.heap.size y (y.alloc (.cells #[.int .u8 (c8.toNat : Int)] 5)).drew := ((Below.refl _ y).alloc (Nat.le_refl _) _).drew
    have hS2 : (y.alloc (.cells #[.int .u8 (c8.toNat : Int)] 5)).drew.cell? ⟨w.heap.size, 1, none⟩ = some (.int .i64 (2 + (k : Int))) := (hBA.cell (World.block_lt_of_cell? _ _ y1)).trans y1
    refine hK.out _ _ hS2 (fun _ => ?_)
    clear hK K
    have hcv := str_one y c8
    generalize (y.alloc (.cells #[.int .u8 (c8.toNat : Int)] 5)).drew = Y at *
    refine wpAnyH_ready (rs := [3]) (by kernel_rfl) (by simp) ?_
    refine AllReadyH.cons rfl (fun K hK => ?_) AllReadyH.nil
    rw [if_pos (by kernel_rfl)]
    go_simp
    refine hK.out _ _ hS2 (fun _ => ?_)
    clear hK K hcv
    refine wpAnyH_take (i := 6) (v := .string ⟨#[c8]⟩) rfl (by kernel_rfl) (by kernel_rfl) (by kernel_rfl) (fun _ _ _ h => h) (Or.inl ⟨by kernel_rfl, fun w' hw => by go_simp⟩) hS2 ?_
    refine wpAnyH_take (i := 7) (v := .int .i64 (2 + (k : Int))) rfl (by kernel_rfl) (by kernel_rfl) (by kernel_rfl) (fun _ _ _ h => h) (Or.inl ⟨by kernel_rfl, fun w' hw => by go_simp⟩) hS2 ?_
    refine wpAnyH_done (by kernel_rfl) (noPanS_normal ?_) _
    try simp only [Act.put, List.getElem_toArray, List.getElem_cons_zero, List.getElem_cons_succ, List.setIfInBounds_toArray, List.set_cons_zero, List.set_cons_succ]
    go_wp2_with (fail)
    rw [jumpA_ret]
    go_ret2
    refine ⟨by push_cast; rfl, ?_⟩
    exact bseq (h0.grown HGY.out h0.size (fun k e => by cases e; exact Nat.le_refl _)) hBA
  · have hd : decide (2 ≤ k) = false := decide_eq_false hk
    rw [if_neg hk]
    rw [hd] at KDG
    go_enter Tryz.func58, Tryz.ntmps58
    go_wp2_with (fail)
    refine wp_scope_n 3 ?_
    go_wp2_with (first | (go_at_call 29; refine (takes_no w.heap.size t 1 _ _ HR.out hp1 hs (by first | exact e34 | exact e92 | exact e110 | exact e114 | exact e116)).mono ?_; rintro e x ⟨rfl, hRn, hgn⟩; replace HR := hide hRn; replace HG := hide (grown_trans HG.out hgn); clear hRn hgn) | (go_at_call 29; refine (takes_yes w.heap.size t 1 _ _ HR.out hp1 hs e120).mono ?_; rintro e x ⟨rfl, hRn, hgn⟩; have HR2 := hide hRn; have HG2 := hide (grown_trans HG.out hgn); have d1 := hRn.at; clear hRn hgn))
    go_step3
    first | refine goto_then rfl ?_ | refine goto_plain rfl ?_ | refine goto_block rfl ?_
    go_wp2_with (first | (go_at_call 75; refine (KDG.out _ HR2.out).mono ?_; rintro e y ⟨rfl, hRy, hgy⟩; have HRY := hide hRy; have HGY := hide (grown_trans HG2.out hgy); clear hRy hgy))
    go_step3
    first | refine goto_then rfl ?_ | refine goto_plain rfl ?_ | refine goto_block rfl ?_
    go_wp2_with (fail)
    rw [jumpA_ret]
    go_ret2
    refine ⟨rfl, ?_⟩
    exact h0.grown HGY.out h0.size (fun k e => by cases e; exact Nat.le_refl _)
set_option maxRecDepth 100000 in
set_option maxHeartbeats 8000000 in
theorem esc_none (t : ByteArray) (w : World) (ht : 1 ≤ t.size) (hs : t.size ≤ 140737488355328) (n34 : ¬ (1 < t.size ∧ by' (bl t) 1 = 34)) (n92 : ¬ (1 < t.size ∧ by' (bl t) 1 = 92)) (n110 : ¬ (1 < t.size ∧ by' (bl t) 1 = 110)) (n114 : ¬ (1 < t.size ∧ by' (bl t) 1 = 114)) (n116 : ¬ (1 < t.size ∧ by' (bl t) 1 = 116)) (n120 : ¬ (1 < t.size ∧ by' (bl t) 1 = 120)) (n117 : ¬ (1 < t.size ∧ by' (bl t) 1 = 117)) :
    Calls Tryz.prog 58 #[.string t] w fun e w' => e = .returned (.tuple #[.string ⟨(escL (bl t)).1.toArray⟩, .int .i64 ((escL (bl t)).2 : Int)]) ∧ Below w.heap.size w w' := by
  have hR0 : Rd (w.alloc (.cells #[.string t, .int .i64 1] 58)) w.heap.size t 1 := heap_alloc_new w _
  have h0 : Below w.heap.size w (w.alloc (.cells #[.string t, .int .i64 1] 58)) := (Below.refl _ _).alloc (Nat.le_refl _) _
  have HR := hide hR0
  have HG := hide (grown_drewN (w.alloc (.cells #[.string t, .int .i64 1] 58)) 0 (some w.heap.size))
  have hp1 : 1 ≤ t.size := ht
  have NO : ∀ m, ¬ (1 < t.size ∧ by' (bl t) 1 = m) → isAt t 1 m = false := fun m h => by
    unfold isAt
    rw [← Bool.decide_and]
    exact decide_eq_false h
  have YES : ∀ m, (1 < t.size ∧ by' (bl t) 1 = m) → isAt t 1 m = true := fun m h => by
    unfold isAt
    rw [← Bool.decide_and]
    exact decide_eq_true h
  clear hR0
  rw [escL_none (fun m hm => by simp only [List.mem_cons, List.not_mem_nil, or_false] at hm; rcases hm with rfl | rfl | rfl | rfl | rfl | rfl | rfl <;> assumption)]
  have e34 : isAt t 1 34 = false := NO 34 (by first | assumption | omega)
  have e92 : isAt t 1 92 = false := NO 92 (by first | assumption | omega)
  have e110 : isAt t 1 110 = false := NO 110 (by first | assumption | omega)
  have e114 : isAt t 1 114 = false := NO 114 (by first | assumption | omega)
  have e116 : isAt t 1 116 = false := NO 116 (by first | assumption | omega)
  have e120 : isAt t 1 120 = false := NO 120 (by first | assumption | omega)
  have e117 : isAt t 1 117 = false := NO 117 (by first | assumption | omega)
  clear NO YES
  go_enter Tryz.func58, Tryz.ntmps58
  go_wp2_with (fail)
  refine wp_scope_n 3 ?_
  go_wp2_with (first | (go_at_call 29; refine (takes_no w.heap.size t 1 _ _ HR.out hp1 hs (by first | exact e34 | exact e92 | exact e110 | exact e114 | exact e116 | exact e120 | exact e117)).mono ?_; rintro e x ⟨rfl, hRn, hgn⟩; replace HR := hide hRn; replace HG := hide (grown_trans HG.out hgn); clear hRn hgn))
  go_step3
  first | refine goto_then rfl ?_ | refine goto_plain rfl ?_ | refine goto_block rfl ?_
  go_wp2_with (fail)
  rw [jumpA_ret]
  go_ret2
  refine ⟨rfl, ?_⟩
  exact h0.grown HG.out h0.size (fun k e => by cases e; exact Nat.le_refl _)
end Go.Proofs.YtaljllbfedfpoaaGreatDoor
