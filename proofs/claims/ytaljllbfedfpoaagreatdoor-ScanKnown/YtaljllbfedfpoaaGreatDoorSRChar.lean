/- The document's side of package scan: the first character of a text, which characters are plain, two digits of sixteen. -/
import Derived.Test.YtaljllbfedfpoaaGreatDoorSQuoM
namespace Go.Proofs.YtaljllbfedfpoaaGreatDoor
open Go.RowKit Go.Shelf
set_option linter.unusedVariables false

set_option maxHeartbeats 2000000 in
theorem rchar_walk (s : ByteArray) (w : World) (c c' r r' : Nat) (right : Bool) (hc1 : 1 ≤ c) (hc4 : c ≤ 4) (hcs : c ≤ s.size) (hs : s.size ≤ 9223372036854775807)
    (hx : (((r : Int) != 65533) = true ∧ right = true) ∨ (((r : Int) != 65533) = false ∧ ((c : Int) == 3) = right))
    (h0 : ∀ (v : World) ty, (Instr.next (.pointer (some ⟨v.heap.size, 0, none⟩)) true ty).run Tryz.prog (v.iter s 0) = .ok (.tuple #[.bool true, .int .i64 0, .int .i32 (r : Nat)]) (v.iter s c))
    (h1 : c < s.size → ∀ (v : World) ty, (Instr.next (.pointer (some ⟨v.heap.size, 0, none⟩)) true ty).run Tryz.prog (v.iter s c) = .ok (.tuple #[.bool true, .int .i64 c, .int .i32 (r' : Nat)]) (v.iter s c')) :
    Calls Tryz.prog 45 #[.string s] w fun e w' => e = .returned (.tuple #[.int .i32 r, .int .i64 c, .bool right]) ∧ Below w.heap.size w w' := by
  have HX := hide hx
  have H1 := hide h1
  have H0 := hide h0
  have hcI : (0 : Int) < (c : Int) := by omega
  clear hx h1 h0
  go_enter Tryz.func45, Tryz.ntmps45
  go_wp2
  go_loopw [6] (fun q w' => (w' = w.iter s 0 ∧ q = .int .i32 0) ∨ (w' = w.iter s c ∧ q = .int .i32 r)) (fun _ w' => s.size - w'.iterPos w.heap.size)
  case atStart => exact .inl ⟨rfl, rfl⟩
  case round =>
    obtain ⟨rfl, rfl⟩ | ⟨rfl, rfl⟩ := hrel
    · have g0 := H0.out w
      go_wp2
      go_roundw
      case rel => refine .inr ?_; simp
      case measure => simp; omega
    · by_cases hlt : c < s.size
      · have g1 := H1.out hlt w
        have hbV : Below w.heap.size w (w.iter s c') := iter_below w s c'
        go_wp2
        clear g1
        generalize w.iter s c' = V at *
        go_loopw [] (fun w' => w' = V.iter s 0 ∨ w' = V.iter s c) (fun w' => s.size - w'.iterPos V.heap.size)
        case atStart => exact .inl rfl
        case round =>
          obtain rfl | rfl := hrel
          · have g0 := H0.out V
            go_wp2
            go_roundw
            case rel => refine .inr ?_; simp
            case measure => simp; omega
          · have g1 := H1.out hlt V
            rcases HX.out with ⟨hx, rfl⟩ | ⟨hx, hy⟩
            all_goals
              clear HX
              go_wp2
              go_ret3
              exact ⟨rfl, bseq hbV (iter_below V s c')⟩
      · have hcc : s.size = c := by omega
        have g1 : ∀ ty, (Instr.next (.pointer (some ⟨w.heap.size, 0, none⟩)) true ty).run Tryz.prog (w.iter s c) = _ := fun ty => run_next_end w s c ty hlt
        have hbV : Below w.heap.size w (w.iter s c) := iter_below w s c
        have HCC := hide hcc
        clear hcc
        go_wp2
        clear g1
        generalize w.iter s c = V at *
        go_loopw [] (fun w' => w' = V.iter s 0 ∨ w' = V.iter s c) (fun w' => s.size - w'.iterPos V.heap.size)
        case atStart => exact .inl rfl
        case round =>
          obtain rfl | rfl := hrel
          · have g0 := H0.out V
            go_wp2
            go_roundw
            case rel => refine .inr ?_; simp
            case measure => simp; omega
          · have g1 : ∀ ty, (Instr.next (.pointer (some ⟨V.heap.size, 0, none⟩)) true ty).run Tryz.prog (V.iter s c) = _ := fun ty => run_next_end V s c ty hlt
            have hcc := HCC.out
            rcases HX.out with ⟨hx, rfl⟩ | ⟨hx, hy⟩
            all_goals
              clear HX
              go_wp2
              go_ret3
              exact ⟨rfl, bseq hbV (iter_below V s c)⟩
theorem right_rune (l : List UInt8) (hl : l ≠ []) : (((rune l : Int) != 65533) = true ∧ decide (W l ≠ 0) = true) ∨ (((rune l : Int) != 65533) = false ∧ ((cw l : Int) == 3) = decide (W l ≠ 0)) := by
  by_cases hr : rune l = 65533
  · refine .inr ⟨by rw [hr]; rfl, ?_⟩
    by_cases hw : W l = 0
    · rw [cw_0 hw, decide_eq_false (fun h => h hw)]; rfl
    · have e := congrArg List.length (enc_dec l hl hw)
      rw [hr, List.length_take, Nat.min_eq_left (W_len l hl)] at e
      have e3 : (Lib.encodeRune ((65533 : Nat) : Int)).length = 3 := by decide
      rw [e3] at e
      rw [cw_W hw, ← e]
      rfl
  · refine .inl ⟨?_, decide_eq_true (rune_W hr)⟩
    rw [bne_iff_ne]
    omega
theorem rchar_any (s : ByteArray) (w : World) (h : 0 < s.size) (hs : s.size ≤ 9223372036854775807) :
    Calls Tryz.prog 45 #[.string s] w fun e w' => e = .returned (.tuple #[.int .i32 (rune (bl s) : Int), .int .i64 (cw (bl s) : Int), .bool (decide (W (bl s) ≠ 0))]) ∧ Below w.heap.size w w' := by
  have hl := cw_len (bl s) (bl_ne h)
  rw [bl_len] at hl
  refine rchar_walk s w (cw (bl s)) (cw (bl s) + cw ((bl s).drop (cw (bl s)))) (rune (bl s)) (rune ((bl s).drop (cw (bl s)))) _ (cw_pos _) (cw_le4 _) hl hs (right_rune _ (bl_ne h)) ?_ ?_
  · intro v ty
    have := next_in (P := Tryz.prog) v s 0 ty h
    simpa using this
  · intro hlt v ty
    exact next_in (P := Tryz.prog) v s _ ty hlt
set_option maxHeartbeats 2000000 in
theorem rplain_any (c : Int) (w : World) : Calls Tryz.prog 47 #[.int .i32 c] w fun e w' => e = .returned (.bool (plainK c)) ∧ w' = w := by
  obtain ⟨R, hR⟩ : ∃ R, plainK c = R := ⟨_, rfl⟩
  rw [hR]
  have HR := hide hR
  clear hR
  go_enter Tryz.func47, Tryz.ntmps47
  go_wp2
  all_goals go_ret
  all_goals refine ⟨?_, rfl⟩
  all_goals rw [← HR.out]
  all_goals refine congrArg (fun b => Ending.returned (Value.bool b)) ?_
  all_goals unfold plainK
  all_goals first | (subst_vars; rfl) | (rw [decide_eq_false (by omega), Bool.and_false]) | (simp [bne, *])
end Go.Proofs.YtaljllbfedfpoaaGreatDoor
