/- What utf.Encode answers, of every list of runes; and 'awake', the closed check in the statements, answers true wherever it is called. -/
import Derived.Test.YtaljllbfedfpoaaGreatDoorUPend
namespace Go.Proofs.YtaljllbfedfpoaaGreatDoor
open Go.RowKit
set_option linter.unusedVariables false

/-- What a slice of runes holds, up to its length. -/
def SlU (w : World) (a : Option Addr) (zs : List Int) : Prop :=
  zs = [] ∨ ∃ b off, a = some ⟨b, off, none⟩ ∧ b < w.heap.size ∧ ∀ (i : Nat) (x : Int), zs[i]? = some x → w.cell? ⟨b, off + i, none⟩ = some (.int .i32 x)
theorem SlU.below {w w' : World} {a : Option Addr} {zs : List Int} (h : SlU w a zs) (hb : Below w.heap.size w w') : SlU w' a zs := by
  rcases h with h | ⟨b, off, ha, hl, hs⟩
  · exact .inl h
  · exact .inr ⟨b, off, ha, Nat.lt_of_lt_of_le hl hb.size, fun i x hx => (hb.cell (p := ⟨b, off + i, none⟩) hl).trans (hs i x hx)⟩

theorem run_encode (w : World) (a : Option Addr) (cap : Nat) (zs : List Int) (h : SlU w a zs) :
    (convert 151 9 (.slice a zs.length cap)).run Tryz.prog w = .ok (.string (runesBytes zs)) w := by
  have hnil : zs = [] → (convert 151 9 (.slice a zs.length cap)).run Tryz.prog w = .ok (.string (runesBytes zs)) w := by
    rintro rfl
    cases a with
    | none => exact run_convert_runes_nil w _ _ 21 0 cap Tryz.underlying151 Tryz.underlying21 Tryz.underlying9
    | some a =>
      have := run_convert_runes (P := Tryz.prog) w 151 9 21 a 0 cap [] (Nat.le_refl _) Tryz.underlying151 Tryz.underlying21 Tryz.underlying9 (fun j hj => by simp at hj)
      exact this
  rcases h with h | ⟨b, off, rfl, hb, hs⟩
  · exact hnil h
  · have := run_convert_runes (P := Tryz.prog) w 151 9 21 ⟨b, off, none⟩ zs.length cap zs (Nat.le_refl _) Tryz.underlying151 Tryz.underlying21 Tryz.underlying9 (fun j hj => by
      have e : (⟨b, off, none⟩ : Addr).add j = ⟨b, off + j, none⟩ := by simp [Addr.add]
      rw [e]
      refine hs j _ ?_
      rw [List.getD_eq_getElem?_getD, List.getElem?_eq_getElem hj]; rfl)
    rw [List.take_length] at this
    exact this

theorem encode_any (a : Option Addr) (cap : Nat) (zs : List Int) (w : World) (h : SlU w a zs) :
    Calls Tryz.prog 77 #[.slice a zs.length cap] w fun e w' => e = .returned (.string (runesBytes zs)) ∧ w' = w := by
  have hc := run_encode w a cap zs h
  clear h
  go_enter Tryz.func77, Tryz.ntmps77
  go_wp2
  go_ret
  exact ⟨rfl, rfl⟩

def s1 : ByteArray := { data := #[195, 169, 65] }
def s2 : ByteArray := { data := #[65, 195, 169] }
def s3 : ByteArray := { data := #[195, 169, 65, 255] }
def s4 : ByteArray := { data := #[65, 195] }
def s5 : ByteArray := { data := #[195] }
def s6 : ByteArray := { data := #[169] }

theorem aw1 (w : World) : Calls Tryz.prog 40 #[.string { data := #[195, 169, 65] }] w fun e w' => e = .returned (.tuple #[.int .i32 233, .int .i64 2, .bool true]) ∧ Below w.heap.size w w' := by
  have h := first_any s1 w (by decide)
  have e : firstV (bl s1) = (233, 2, true) := by decide +kernel
  rw [e] at h
  exact h
theorem aw7 (w : World) : Calls Tryz.prog 77 #[.slice (some ⟨w.heap.size, 0, none⟩) 1 1] (w.alloc (.cells #[.int .i32 233] 21)) fun e w' => e = .returned (.string { data := #[195, 169] }) ∧ Below w.heap.size w w' := by
  have h := encode_any (some ⟨w.heap.size, 0, none⟩) 1 [233] (w.alloc (.cells #[.int .i32 233] 21)) (.inr ⟨_, _, rfl, by simp, fun i x hx => by
    match i, hx with
    | 0, hx => simp at hx; subst hx; simp
    | n + 1, hx => simp at hx⟩)
  have e : runesBytes [233] = { data := #[195, 169] } := by decide +kernel
  rw [e] at h
  refine h.mono ?_
  rintro e w' ⟨rfl, rfl⟩
  exact ⟨rfl, (Below.refl _ w).alloc (Nat.le_refl _) _⟩

end Go.Proofs.YtaljllbfedfpoaaGreatDoor
