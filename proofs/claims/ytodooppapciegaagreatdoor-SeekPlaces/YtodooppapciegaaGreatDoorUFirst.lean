/- What utf.First and utf.Count answer, of every text. -/
import Derived.Test.YtodooppapciegaaGreatDoorUChars
import Derived.Test.YtodooppapciegaaGreatDoorRows
import Derived.WalkKit
import Derived.WalkSpells
import Derived.Laws.RangeAny
import Derived.OpenShut
namespace Go.Proofs.YtodooppapciegaaGreatDoor
open Go.RowKit
set_option linter.unusedVariables false

theorem hide {p : Prop} (h : p) : Hid p := h
theorem unhide {p : Prop} (h : Hid p) : p := h
theorem bseq {w a b : World} (h : Below w.heap.size w a) (k : Below a.heap.size a b) : Below w.heap.size w b := h.trans (k.mono h.size)
theorem int_congr {k : IntKind} {a b : Int} (h : a = b) : Value.int k a = Value.int k b := by rw [h]
theorem ret_int {k : IntKind} {a b : Int} (h : a = b) : Ending.returned (.int k a) = .returned (.int k b) := by rw [h]
theorem ret_bool {a b : Bool} (h : a = b) : Ending.returned (.bool a) = .returned (.bool b) := by rw [h]

/-- The bytes of a string. -/
def bl (s : ByteArray) : List UInt8 := s.data.toList
theorem bl_len (s : ByteArray) : (bl s).length = s.size := by unfold bl; simp
theorem bl_ne {s : ByteArray} (h : 0 < s.size) : bl s ≠ [] := fun e => by have := bl_len s; rw [e] at this; simp at this; omega
theorem bl_nil {s : ByteArray} (h : s.size = 0) : bl s = [] := List.eq_nil_of_length_eq_zero (by rw [bl_len]; exact h)
theorem bl_drop_ne {s : ByteArray} {p : Nat} (h : p < s.size) : (bl s).drop p ≠ [] := fun e => by
  have := congrArg List.length e; rw [List.length_drop, bl_len] at this; simp at this; omega
theorem bl_extract (s : ByteArray) (a b : Nat) : bl (s.extract a b) = ((bl s).drop a).take (b - a) := by
  unfold bl
  rw [ByteArray.data_extract, Array.toList_extract]
theorem bl_from (s : ByteArray) (a : Nat) : bl (s.extract a s.size) = (bl s).drop a := by
  rw [bl_extract, List.take_of_length_le (by rw [List.length_drop, bl_len]; exact Nat.le_refl _)]
theorem bl_to (s : ByteArray) (b : Nat) : bl (s.extract 0 b) = (bl s).take b := by rw [bl_extract]; simp

theorem next_in {P : Program} (w : World) (s : ByteArray) (pos : Nat) (ty : TypeId) (h : pos < s.size) :
    (Instr.next (.pointer (some ⟨w.heap.size, 0, none⟩)) true ty).run P (w.iter s pos) =
      .ok (.tuple #[.bool true, .int .i64 pos, .int .i32 (rune ((bl s).drop pos) : Nat)]) (w.iter s (pos + cw ((bl s).drop pos))) := by
  rw [run_next_any w s pos ty h, decode_eq s pos h]; rfl
theorem iter_below (w : World) (s : ByteArray) (pos : Nat) : Below w.heap.size w (w.iter s pos) := (Below.refl _ w).alloc (Nat.le_refl _) _

set_option maxHeartbeats 400000 in
theorem first_none (s : ByteArray) (w : World) (h : s.size = 0) :
    Calls Tryz.prog 40 #[.string s] w fun e w' => e = .returned (.tuple #[.int .i32 0, .int .i64 0, .bool false]) ∧ Below w.heap.size w w' := by
  have hnx : ∀ ty, (Instr.next (.pointer (some ⟨w.heap.size, 0, none⟩)) true ty).run Tryz.prog (w.iter s 0) = _ := fun ty => run_next_end w s 0 ty (by omega)
  have H := hide h
  go_enter Tryz.func40, Tryz.ntmps40
  go_wp2
  go_loopw [5, 6] (fun r d w' => w' = w.iter s 0 ∧ r = .int .i32 0 ∧ d = .int .i64 0) (fun _ _ _ => 0)
  case atStart => exact ⟨rfl, rfl, rfl⟩
  case round =>
    obtain ⟨rfl, rfl, rfl⟩ := hrel
    go_wp2
    go_ret3
    exact ⟨rfl, iter_below _ _ _⟩

set_option maxHeartbeats 1000000 in
theorem first_walk (s : ByteArray) (w : World) (c c' r r' : Nat) (right : Bool) (hc1 : 1 ≤ c) (hc4 : c ≤ 4) (hcs : c ≤ s.size) (hs : s.size ≤ 9223372036854775807)
    (hx : ((1 : Int) < (c : Int) ∧ right = true) ∨ (c = 1 ∧ ((r : Int) != 65533) = true ∧ right = true) ∨ (c = 1 ∧ ((r : Int) != 65533) = false ∧ right = false))
    (h0 : ∀ ty, (Instr.next (.pointer (some ⟨w.heap.size, 0, none⟩)) true ty).run Tryz.prog (w.iter s 0) = .ok (.tuple #[.bool true, .int .i64 0, .int .i32 (r : Nat)]) (w.iter s c))
    (h1 : c < s.size → ∀ ty, (Instr.next (.pointer (some ⟨w.heap.size, 0, none⟩)) true ty).run Tryz.prog (w.iter s c) = .ok (.tuple #[.bool true, .int .i64 c, .int .i32 (r' : Nat)]) (w.iter s c')) :
    Calls Tryz.prog 40 #[.string s] w fun e w' => e = .returned (.tuple #[.int .i32 r, .int .i64 c, .bool right]) ∧ Below w.heap.size w w' := by
  have HX := hide hx
  have H1 := hide h1
  clear hx h1
  go_enter Tryz.func40, Tryz.ntmps40
  go_wp2
  go_loopw [5, 6] (fun q d w' => d = .int .i64 s.size ∧ ((w' = w.iter s 0 ∧ q = .int .i32 0) ∨ (w' = w.iter s c ∧ q = .int .i32 r))) (fun _ _ w' => s.size - w'.iterPos w.heap.size)
  case atStart => refine ⟨rfl, .inl ?_⟩; simp
  case round =>
    obtain ⟨rfl, ⟨rfl, rfl⟩ | ⟨rfl, rfl⟩⟩ := hrel
    · go_wp2
      go_roundw
      case rel => refine ⟨rfl, .inr ?_⟩; simp
      case measure => simp; omega
    · clear h0
      by_cases hlt : c < s.size
      · have h1 := H1.out hlt
        rcases HX.out with ⟨hx, rfl⟩ | ⟨rfl, hx, rfl⟩ | ⟨rfl, hx, rfl⟩
        all_goals
          clear HX
          go_wp2
          go_ret3
          exact ⟨rfl, iter_below _ _ _⟩
      · have hcc : s.size = c := by omega
        have h1 : ∀ ty, (Instr.next (.pointer (some ⟨w.heap.size, 0, none⟩)) true ty).run Tryz.prog (w.iter s c) = _ := fun ty => run_next_end w s c ty hlt
        rw [hcc]
        clear H1 hcc
        rcases HX.out with ⟨hx, rfl⟩ | ⟨rfl, hx, rfl⟩ | ⟨rfl, hx, rfl⟩
        all_goals
          clear HX
          go_wp2
          go_ret3
          exact ⟨rfl, iter_below _ _ _⟩

/-- What First answers: rune, width, whether it is right. -/
def firstV (l : List UInt8) : Int × Int × Bool := if l = [] then (0, 0, false) else ((rune l : Int), (cw l : Int), decide (W l ≠ 0))

theorem first_any (s : ByteArray) (w : World) (hs : s.size ≤ 9223372036854775807) :
    Calls Tryz.prog 40 #[.string s] w fun e w' => e = .returned (.tuple #[.int .i32 (firstV (bl s)).1, .int .i64 (firstV (bl s)).2.1, .bool (firstV (bl s)).2.2]) ∧ Below w.heap.size w w' := by
  by_cases h : s.size = 0
  · rw [bl_nil h]; exact first_none s w h
  · have hp : 0 < s.size := by omega
    have hl := cw_len (bl s) (bl_ne hp)
    rw [bl_len] at hl
    unfold firstV
    rw [if_neg (bl_ne hp)]
    refine first_walk s w (cw (bl s)) (cw (bl s) + cw ((bl s).drop (cw (bl s)))) (rune (bl s)) (rune ((bl s).drop (cw (bl s)))) _ (cw_pos _) (cw_le4 _) hl hs ?_ ?_ ?_
    · by_cases h0 : W (bl s) = 0
      · exact .inr (.inr ⟨cw_0 h0, by rw [rune_0 h0]; rfl, by simp [h0]⟩)
      · by_cases h1 : W (bl s) = 1
        · have := rune_1 h1
          exact .inr (.inl ⟨by rw [cw_W h0, h1], by simp; omega, by simp [h0]⟩)
        · exact .inl ⟨by rw [cw_W h0]; omega, by simp [h0]⟩
    · intro ty
      have := next_in (P := Tryz.prog) w s 0 ty hp
      simpa using this
    · intro hlt ty
      exact next_in (P := Tryz.prog) w s _ ty hlt

end Go.Proofs.YtodooppapciegaaGreatDoor
