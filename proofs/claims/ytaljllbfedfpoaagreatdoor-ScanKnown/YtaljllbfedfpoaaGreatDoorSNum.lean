/- Package scan: what number, said, isRun and the kinds of bytes answer. -/
import Derived.Test.YtaljllbfedfpoaaGreatDoorSRd
import Derived.Test.YtaljllbfedfpoaaGreatDoorSLayA
import Derived.Test.YtaljllbfedfpoaaGreatDoorSLayI
import Derived.Test.YtaljllbfedfpoaaGreatDoorTShelf
import Derived.Lib.AppendIntMem
namespace Go.Proofs.YtaljllbfedfpoaaGreatDoor
open Go.RowKit Go.Shelf
set_option linter.unusedVariables false

/-- The library's variables lie as they are laid. -/
def LaidW (w : World) : Prop := (∃ t p, w.cell? ⟨3, 0, none⟩ = some (.iface t p)) ∧ (∃ t p, w.cell? ⟨4, 0, none⟩ = some (.iface t p)) ∧ Lib.TabIs Tryz.prog w "internal/strconv.uint64pow10" .u64 Lib.pow10Tab
theorem LaidW.below {w w' : World} (h : LaidW w) (hb : Below w.heap.size w w') : LaidW w' := by
  obtain ⟨⟨t, p, h1⟩, ⟨t2, p2, h2⟩, h3⟩ := h
  exact ⟨⟨t, p, (hb.cell (World.block_lt_of_cell? _ _ h1)).trans h1⟩, ⟨t2, p2, (hb.cell (World.block_lt_of_cell? _ _ h2)).trans h2⟩, Lib.tabBelow_of_tabIs h3 _ hb⟩
/-- .. whatever is done from a block on. -/
def LaidB (B : Nat) (w : World) : Prop := ∀ w', Below B w w' → LaidW w'
theorem LaidB.here {B : Nat} {w : World} (h : LaidB B w) : LaidW w := h w (Below.refl _ _)
theorem LaidB.on {B : Nat} {w w' : World} (h : LaidB B w) (hb : Below B w w') : LaidB B w' := fun x hx => h x (hb.trans hx)
theorem LaidB.of {w : World} (h : LaidW w) : LaidB w.heap.size w := fun x hx => h.below hx

/-- The number that a run says. -/
def numK (l : List UInt8) : Option Int := match Lib.atoiAll l with
  | .ok v => if 0 ≤ v ∧ Lib.itoa v = l then some v else none
  | _ => none
theorem toList_eqB (a b : ByteArray) : (a.toList == b.toList) = decide (bl a = bl b) := by
  rw [ByteArray.toList_eq, ByteArray.toList_eq]
  by_cases h : bl a = bl b
  · rw [decide_eq_true h]
    show (bl a == bl b) = true
    rw [h]; simp
  · rw [decide_eq_false h]
    show (bl a == bl b) = false
    exact beq_eq_false_iff_ne.2 h
theorem atoi_ok (s : ByteArray) (hs : s.size ≤ 281474976710656) (v : Int) (h : Lib.atoiAll (bl s) = .ok v) (w : World) :
    Calls Tryz.prog 73 #[.string s] w fun e w' => e = .returned (.tuple #[.int .i64 v, .nilIface]) ∧ Below w.heap.size w w' := by
  refine (Any.strconv_Atoi_ok lay_LaysC_172 s (by omega) v h w).mono ?_
  rintro e w' ⟨rfl, rfl | ⟨t, rfl⟩⟩
  · exact ⟨rfl, Below.refl _ _⟩
  · exact ⟨rfl, Lib.bytesWorld_below _ _ _⟩
theorem itoa_any (n : Int) (h0 : -9223372036854775808 ≤ n) (h1 : n ≤ 9223372036854775807) (w : World) (hL : LaidW w) :
    Calls Tryz.prog 55 #[.int .i64 n] w fun e w' => e = .returned (.string ⟨(Lib.itoa n).toArray⟩) ∧ Below w.heap.size w w' := by
  refine (Any.strconv_Itoa lay_LaysM_171 n h0 h1 w hL.2.2).mono ?_
  rintro e w' ⟨rfl, k, os, rfl⟩
  exact ⟨rfl, rfl, rfl, rfl, by simp [Go.Sort.grow], fun j hj => by simp [Go.Sort.grow, Array.getElem?_append_left hj]⟩
theorem atoi_bad (s : ByteArray) (hs : s.size ≤ 281474976710656) (h : ∀ v, Lib.atoiAll (bl s) ≠ .ok v) (w : World) (hL : LaidW w) :
    Calls Tryz.prog 73 #[.string s] w fun e w' => (∃ z t p, e = .returned (.tuple #[.int .i64 z, .iface t p])) ∧ Below w.heap.size w w' := by
  cases hc : Lib.atoiAll (bl s) with
  | ok v => exact absurd hc (h v)
  | «syntax» =>
    obtain ⟨t, p, h1⟩ := hL.1
    refine (Any.strconv_Atoi_syntax lay_LaysC_172 s hs hc _ w h1 (.inr ⟨t, p, rfl⟩)).mono ?_
    rintro e w' ⟨N, rfl, _, _, hB⟩
    exact ⟨⟨_, _, _, rfl⟩, hB⟩
  | range =>
    obtain ⟨t, p, h1⟩ := hL.2.1
    refine (Any.strconv_Atoi_range lay_LaysC_172 s hs hc _ w h1 (.inr ⟨t, p, rfl⟩)).mono ?_
    rintro e w' ⟨N, rfl, _, _, hB⟩
    exact ⟨⟨_, _, _, rfl⟩, hB⟩
set_option maxHeartbeats 1000000 in
theorem number_any (s : ByteArray) (w : World) (hs : s.size ≤ 281474976710656) (hL : LaidW w) :
    Calls Tryz.prog 56 #[.string s] w fun e w' => e = .returned (.tuple #[.int .i64 ((numK (bl s)).getD 0), .bool (numK (bl s)).isSome]) ∧ Below w.heap.size w w' := by
  have HL := hide hL
  clear hL
  cases hc : Lib.atoiAll (bl s) with
  | ok v =>
    have ka := fun w' => atoi_ok s hs v hc w'
    have hbd := Lib.atoiAll_bounds hc
    have KA := hide ka
    have hK : numK (bl s) = if 0 ≤ v ∧ Lib.itoa v = bl s then some v else none := by unfold numK; rw [hc]
    rw [hK]
    clear ka hK hc
    by_cases hv : 0 ≤ v
    · obtain ⟨U, hU⟩ : ∃ U : ByteArray, U = ⟨(Lib.itoa v).toArray⟩ := ⟨_, rfl⟩
      have hUb : bl U = Lib.itoa v := by rw [hU]; rfl
      have ki := fun w' h => itoa_any v hbd.1 hbd.2 w' h
      rw [← hU] at ki
      have KI := hide ki
      have hcmp := toList_eqB U s
      rw [hUb] at hcmp
      by_cases he : Lib.itoa v = bl s
      · rw [if_pos ⟨hv, he⟩]
        rw [decide_eq_true he] at hcmp
        clear ki hU hUb he hbd
        go_enter Tryz.func56, Tryz.ntmps56
        go_wp2_with (first | (go_at_call 73; refine (KA.out _).mono ?_; rintro e w1 ⟨rfl, hB1⟩) | (go_at_call 55; refine (KI.out _ (HL.out.below hB1)).mono ?_; rintro e w2 ⟨rfl, hB2⟩))
        go_ret2
        exact ⟨rfl, bseq hB1 hB2⟩
      · rw [if_neg (fun h => he h.2)]
        rw [decide_eq_false he] at hcmp
        clear ki hU hUb he hbd
        go_enter Tryz.func56, Tryz.ntmps56
        go_wp2_with (first | (go_at_call 73; refine (KA.out _).mono ?_; rintro e w1 ⟨rfl, hB1⟩) | (go_at_call 55; refine (KI.out _ (HL.out.below hB1)).mono ?_; rintro e w2 ⟨rfl, hB2⟩))
        go_ret2
        exact ⟨rfl, bseq hB1 hB2⟩
    · have hv' : v < 0 := by omega
      rw [if_neg (fun h => hv h.1)]
      clear hv
      go_enter Tryz.func56, Tryz.ntmps56
      go_wp2_with (first | (go_at_call 73; refine (KA.out _).mono ?_; rintro e w1 ⟨rfl, hB1⟩))
      go_ret2
      exact ⟨rfl, hB1⟩
  | «syntax» =>
    have ka := fun w' h => atoi_bad s hs (fun v e => by rw [hc] at e; cases e) w' h
    have KA := hide ka
    have hK : numK (bl s) = none := by unfold numK; rw [hc]
    rw [hK]
    clear ka hK hc
    go_enter Tryz.func56, Tryz.ntmps56
    go_wp2_with (first | (go_at_call 73; refine (KA.out _ HL.out).mono ?_; rintro e w1 ⟨⟨z, t, p, rfl⟩, hB1⟩))
    go_ret2
    exact ⟨rfl, hB1⟩
  | range =>
    have ka := fun w' h => atoi_bad s hs (fun v e => by rw [hc] at e; cases e) w' h
    have KA := hide ka
    have hK : numK (bl s) = none := by unfold numK; rw [hc]
    rw [hK]
    clear ka hK hc
    go_enter Tryz.func56, Tryz.ntmps56
    go_wp2_with (first | (go_at_call 73; refine (KA.out _ HL.out).mono ?_; rintro e w1 ⟨⟨z, t, p, rfl⟩, hB1⟩))
    go_ret2
    exact ⟨rfl, hB1⟩
end Go.Proofs.YtaljllbfedfpoaaGreatDoor
