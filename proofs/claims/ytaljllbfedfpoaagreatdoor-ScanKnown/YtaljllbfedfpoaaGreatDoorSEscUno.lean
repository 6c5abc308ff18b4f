/- Package scan: what an escape stands for. -/
import Derived.Test.YtaljllbfedfpoaaGreatDoorSEscA
namespace Go.Proofs.YtaljllbfedfpoaaGreatDoor
open Go.RowKit Go.Shelf
set_option linter.unusedVariables false
set_option maxRecDepth 100000 in
set_option maxHeartbeats 8000000 in
theorem esc_u_no (t : ByteArray) (w : World) (ht : 1 ≤ t.size) (hs : t.size ≤ 140737488355328) (c117 : 1 < t.size ∧ by' (bl t) 1 = 117) (c123 : ¬ (2 < t.size ∧ by' (bl t) 2 = 123)) :
    Calls Tryz.prog 58 #[.string t] w fun e w' => e = .returned (.tuple #[.string ⟨(escL (bl t)).1.toArray⟩, .int .i64 ((escL (bl t)).2 : Int)]) ∧ Below w.heap.size w w' := by
  have hR0 : Rd (w.alloc (.cells #[.string t, .int .i64 1] 58)) w.heap.size t 1 := heap_alloc_new w _
  have h0 : Below w.heap.size w (w.alloc (.cells #[.string t, .int .i64 1] 58)) := (Below.refl _ _).alloc (Nat.le_refl _) _
  have HR := hide hR0
  have HG := hide (grown_drewN (w.alloc (.cells #[.string t, .int .i64 1] 58)) 0 (some w.heap.size))
  have hp1 : 1 ≤ t.size := ht
  have NO : ∀ m, ¬ (1 < t.size ∧ by' (bl t) 1 = m) → isAt t 1 m = false := fun m h => by
    unfold isAt
    rw [← Bool.decide_and]
    exact decide_eq_false h
  have YES : ∀ m, (1 < t.size ∧ by' (bl t) 1 = m) → isAt t 1 m = true := fun m h => by
    unfold isAt
    rw [← Bool.decide_and]
    exact decide_eq_true h
  clear hR0
  have e34 : isAt t 1 34 = false := NO 34 (by first | assumption | omega)
  have e92 : isAt t 1 92 = false := NO 92 (by first | assumption | omega)
  have e110 : isAt t 1 110 = false := NO 110 (by first | assumption | omega)
  have e114 : isAt t 1 114 = false := NO 114 (by first | assumption | omega)
  have e116 : isAt t 1 116 = false := NO 116 (by first | assumption | omega)
  have e120 : isAt t 1 120 = false := NO 120 (by first | assumption | omega)
  have e117 : isAt t 1 117 = true := YES 117 c117
  have hp2 : 2 ≤ t.size := c117.1
  have hE : escL (bl t) = (if 2 < t.size ∧ by' (bl t) 2 = 123 then
          if 1 ≤ (dgF 6 0 ((bl t).drop 3)).2 ∧ (3 + (dgF 6 0 ((bl t).drop 3)).2 < t.size ∧ by' (bl t) (3 + (dgF 6 0 ((bl t).drop 3)).2) = 125) ∧ Lib.validRune ((dgF 6 0 ((bl t).drop 3)).1 : Int) = true then (Lib.encodeRune ((dgF 6 0 ((bl t).drop 3)).1 : Int), 3 + (dgF 6 0 ((bl t).drop 3)).2 + 1) else ([], 0)
        else ([], 0)) := by
    unfold escL
    rw [bl_len, if_pos c117.1, c117.2]; rfl
  rw [hE]
  have ISN : ∀ p m, ¬ (p < t.size ∧ by' (bl t) p = m) → isAt t p m = false := fun p m h => by
    unfold isAt
    rw [← Bool.decide_and]
    exact decide_eq_false h
  have ISY : ∀ p m, (p < t.size ∧ by' (bl t) p = m) → isAt t p m = true := fun p m h => by
    unfold isAt
    rw [← Bool.decide_and]
    exact decide_eq_true h
  clear NO YES hE
  have e123 := ISN 2 123 c123
  rw [if_neg c123]
  clear ISN ISY
  go_enter Tryz.func58, Tryz.ntmps58
  go_wp2_with (fail)
  refine wp_scope_n 3 ?_
  go_wp2_with (first | (go_at_call 29; refine (takes_no w.heap.size t 1 _ _ HR.out hp1 hs (by first | exact e34 | exact e92 | exact e110 | exact e114 | exact e116 | exact e120)).mono ?_; rintro e x ⟨rfl, hRn, hgn⟩; replace HR := hide hRn; replace HG := hide (grown_trans HG.out hgn); clear hRn hgn) | (go_at_call 29; refine (takes_yes w.heap.size t 1 _ _ HR.out hp1 hs e117).mono ?_; rintro e x ⟨rfl, hRn, hgn⟩; have HR2 := hide hRn; have HG2 := hide (grown_trans HG.out hgn); have d1 := hRn.at; clear hRn hgn))
  go_step3
  first | refine goto_then rfl ?_ | refine goto_plain rfl ?_ | refine goto_block rfl ?_
  go_wp2_with (first | (go_at_call 29; refine (takes_no w.heap.size t 2 123 _ HR2.out hp2 hs e123).mono ?_; rintro e x2 ⟨rfl, hRn, hgn⟩; have HR3 := hide hRn; have HG3 := hide (grown_trans HG2.out hgn); clear hRn hgn HR2))
  go_step3
  first | refine goto_then rfl ?_ | refine goto_plain rfl ?_ | refine goto_block rfl ?_
  go_wp2_with (fail)
  rw [jumpA_ret]
  go_ret2
  refine ⟨rfl, ?_⟩
  exact h0.grown HG3.out h0.size (fun k e => by cases e; exact Nat.le_refl _)
end Go.Proofs.YtaljllbfedfpoaaGreatDoor
