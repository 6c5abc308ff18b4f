/- What utf.At, Of, opener, Last and Begins answer, of every text and number. -/
import Derived.Test.YtaljllbfedfpoaaGreatDoorUFirst
namespace Go.Proofs.YtaljllbfedfpoaaGreatDoor
open Go.RowKit
set_option linter.unusedVariables false

/-- So far a walk over a text's characters has come: k of them are through, the next one begins at pos. -/
def Inv (l : List UInt8) (pos k : Nat) : Prop := (Cs 0 l).drop k = Cs pos (l.drop pos) ∧ k ≤ (Cs 0 l).length ∧ pos ≤ l.length ∧ k ≤ pos
theorem Inv.start (l : List UInt8) : Inv l 0 0 := ⟨by simp, by omega, by omega, by omega⟩
theorem drop_ne {l : List UInt8} {pos : Nat} (h : pos < l.length) : l.drop pos ≠ [] := fun e => by
  have := congrArg List.length e; rw [List.length_drop] at this; simp at this; omega
theorem Inv.here {l : List UInt8} {pos k : Nat} (h : Inv l pos k) (hp : pos < l.length) : (Cs 0 l)[k]? = some (pos, rune (l.drop pos), cw (l.drop pos)) := by
  have := h.1
  rw [Cs_cons _ _ (drop_ne hp)] at this
  have h0 : ((Cs 0 l).drop k)[0]? = some (pos, rune (l.drop pos), cw (l.drop pos)) := by rw [this]; rfl
  rw [List.getElem?_drop, Nat.add_zero] at h0
  exact h0
theorem Inv.step {l : List UInt8} {pos k : Nat} (h : Inv l pos k) (hp : pos < l.length) : Inv l (pos + cw (l.drop pos)) (k + 1) := by
  have h1 := h.1
  rw [Cs_cons _ _ (drop_ne hp)] at h1
  have h2 := cw_len _ (drop_ne hp)
  rw [List.length_drop] at h2
  have h3 := cw_pos (l.drop pos)
  have h4 := (List.getElem?_eq_some_iff.1 (h.here hp)).1
  refine ⟨?_, h4, by omega, by have := h.2.2.2; omega⟩
  rw [← List.drop_drop, h1, List.drop_one, List.tail_cons, List.drop_drop]
theorem Inv.fin {l : List UInt8} {pos k : Nat} (h : Inv l pos k) (hp : l.length ≤ pos) : k = (Cs 0 l).length := by
  have h1 := h.1
  rw [List.drop_eq_nil_of_le hp, Cs_nil, List.drop_eq_nil_iff] at h1
  exact Nat.le_antisymm h.2.1 h1
theorem Cs_len_le (l : List UInt8) : (Cs 0 l).length ≤ l.length := by
  have : ∀ a, (Cs a l).length ≤ l.length := by
    induction l using byChars with
    | h0 => intro a; simp [Cs_nil]
    | h1 l hl ih =>
      intro a
      have h1 := cw_pos l
      have h2 := cw_len l hl
      have := ih (a + cw l)
      rw [Cs_cons a l hl, List.length_cons]
      rw [List.length_drop] at this
      omega
  exact this 0

/-- Where the character of a number begins; behind the last one: the end. -/
def pl (l : List UInt8) (k : Nat) : Nat := match (Cs 0 l)[k]? with | some e => e.1 | none => l.length
def atV (l : List UInt8) (n : Int) : Int × Int := if 0 ≤ n ∧ n ≤ ((Cs 0 l).length : Int) then ((pl l n.toNat : Int), 0) else (0, 6)
/-- How many characters begin at a place or ahead of it. -/
def ofN (l : List UInt8) (i : Nat) : Nat := ((Cs 0 l).filter (fun e => decide (e.1 ≤ i))).length
def ofV (l : List UInt8) (i : Int) : Int × Int := if 0 ≤ i ∧ i ≤ (l.length : Int) then (if i = (l.length : Int) then (ofN l i.toNat : Int) else (ofN l i.toNat : Int) - 1, 0) else (0, 6)
def beginsV (l : List UInt8) (i : Int) : Bool := decide (0 ≤ i) && decide (i ≤ (l.length : Int)) && (decide (i = (l.length : Int)) || decide (op l i.toNat = i.toNat ∨ op l i.toNat + cw (l.drop (op l i.toNat)) ≤ i.toNat))

theorem pl_fin (l : List UInt8) : pl l (Cs 0 l).length = l.length := by unfold pl; rw [List.getElem?_eq_none (Nat.le_refl _)]
theorem pl_here {l : List UInt8} {pos k : Nat} (h : Inv l pos k) (hp : pos < l.length) : pl l k = pos := by unfold pl; rw [h.here hp]

theorem ret_two {a b c d : Int} (h : a = c) (k : b = d) : Ending.returned (.tuple #[.int .i64 a, .int .i64 b]) = .returned (.tuple #[.int .i64 c, .int .i64 d]) := by rw [h, k]

/-- Of the rest of a walk none begins that early. -/
theorem filter_none (l : List UInt8) (pos i : Nat) (h : i < pos) : (Cs pos l).filter (fun e => decide (e.1 ≤ i)) = [] := by
  rw [List.filter_eq_nil_iff]
  intro e he
  have := (Cs_mem l pos e he).1
  simp; omega

def coB (b : Nat) : Bool := decide (128 ≤ b ∧ b ≤ 191)
theorem ret_three {a b c d : Int} {p q : Bool} (h : a = c) (k : b = d) (m : p = q) : Ending.returned (.tuple #[.int .i32 a, .int .i64 b, .bool p]) = .returned (.tuple #[.int .i32 c, .int .i64 d, .bool q]) := by rw [h, k, m]

/-- What Last answers. -/
def lastV (l : List UInt8) : Int × Int × Bool := if l = [] then (0, 0, false) else firstV (l.drop (lastAt l))

theorem firstV_ne {l : List UInt8} (h : l ≠ []) : firstV l = ((rune l : Int), (cw l : Int), decide (W l ≠ 0)) := by unfold firstV; rw [if_neg h]

theorem isEmpty_false {s : ByteArray} (h : 0 < s.size) : s.toList.isEmpty = false := by
  rw [ByteArray.toList_eq]
  have := bl_ne h
  unfold bl at this
  simpa using this
theorem isEmpty_true {s : ByteArray} (h : s.size = 0) : s.toList.isEmpty = true := by
  rw [ByteArray.toList_eq]
  have := bl_nil h
  unfold bl at this
  simpa using this

end Go.Proofs.YtaljllbfedfpoaaGreatDoor
