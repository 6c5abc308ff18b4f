/- What utf.Encode answers, of every list of runes; and 'awake', the closed check in the statements, answers true wherever it is called. -/
import Derived.Test.YtojbclifafmllaaUPend
namespace Go.Proofs.Ytojbclifafmllaa
open Go.RowKit
set_option linter.unusedVariables false

/-- What a slice of runes holds, up to its length. -/
def SlU (w : World) (a : Option Addr) (zs : List Int) : Prop :=
  zs = [] ∨ ∃ b off, a = some ⟨b, off, none⟩ ∧ b < w.heap.size ∧ ∀ (i : Nat) (x : Int), zs[i]? = some x → w.cell? ⟨b, off + i, none⟩ = some (.int .i32 x)
theorem SlU.below {w w' : World} {a : Option Addr} {zs : List Int} (h : SlU w a zs) (hb : Below w.heap.size w w') : SlU w' a zs := by
  rcases h with h | ⟨b, off, ha, hl, hs⟩
  · exact .inl h
  · exact .inr ⟨b, off, ha, Nat.lt_of_lt_of_le hl hb.size, fun i x hx => (hb.cell (p := ⟨b, off + i, none⟩) hl).trans (hs i x hx)⟩

def s1 : ByteArray := { data := #[195, 169, 65] }
def s2 : ByteArray := { data := #[65, 195, 169] }
def s3 : ByteArray := { data := #[195, 169, 65, 255] }
def s4 : ByteArray := { data := #[65, 195] }
def s5 : ByteArray := { data := #[195] }
def s6 : ByteArray := { data := #[169] }

theorem aw1 (w : World) : Calls Try.prog 43 #[.string { data := #[195, 169, 65] }] w fun e w' => e = .returned (.tuple #[.int .i32 233, .int .i64 2, .bool true]) ∧ Below w.heap.size w w' := by
  have h := first_any s1 w (by decide)
  have e : firstV (bl s1) = (233, 2, true) := by decide +kernel
  rw [e] at h
  exact h
theorem aw5 (w : World) : Calls Try.prog 41 #[.string { data := #[65, 195] }] w fun e w' => e = .returned (.int .i64 1) ∧ Below w.heap.size w w' := by
  have h := pending_any s4 w (by decide)
  have e : pendingV (bl s4) = 1 := by decide +kernel
  rw [e] at h
  exact h
theorem aw6 (w : World) : Calls Try.prog 42 #[.string { data := #[195] }, .string { data := #[169] }] w fun e w' => e = .returned (.int .i64 1) ∧ Below w.heap.size w w' := by
  have h := closes_any s5 s6 w (by decide)
  have e : closesV (bl s5) (bl s6) = 1 := by decide +kernel
  rw [e] at h
  exact h
end Go.Proofs.Ytojbclifafmllaa
