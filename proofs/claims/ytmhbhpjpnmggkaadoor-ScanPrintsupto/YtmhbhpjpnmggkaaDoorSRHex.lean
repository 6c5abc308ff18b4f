/- The document's side of package scan: two digits of sixteen. -/
import Derived.Test.YtmhbhpjpnmggkaaDoorSRChar
namespace Go.Proofs.YtmhbhpjpnmggkaaDoor
open Go.RowKit Go.Shelf
set_option linter.unusedVariables false

def sixS : ByteArray := ⟨#[48, 49, 50, 51, 52, 53, 54, 55, 56, 57, 97, 98, 99, 100, 101, 102]⟩
theorem six_at (k : Nat) (h : k < 16) : sixS.extract k (k + 1) = ⟨#[hexD k]⟩ := by
  have : ∀ j : Fin 16, sixS.extract j.val (j.val + 1) = ⟨#[hexD j.val]⟩ := by decide +kernel
  exact this ⟨k, h⟩
set_option maxHeartbeats 2000000 in
theorem rhex_any (f : UInt8) (w : World) : Calls Tryd.prog 26 #[.int .u8 (f.toNat : Int)] w fun e w' => e = .returned (.string ⟨#[hexD (f.toNat / 16), hexD (f.toNat % 16)]⟩) ∧ ∃ n, w' = w.drewN n := by
  have hf := f.toNat_lt
  obtain ⟨hi, hhi⟩ : ∃ hi, f.toNat / 16 = hi := ⟨_, rfl⟩
  obtain ⟨lo, hlo⟩ : ∃ lo, f.toNat % 16 = lo := ⟨_, rfl⟩
  rw [hhi, hlo]
  have g1 : (f.toNat : Int) / 16 = (hi : Int) := by omega
  have g2 : (f.toNat : Int) % 16 = (lo : Int) := by omega
  have k1 : (hi : Int) < 16 := by omega
  have k2 : (lo : Int) < 16 := by omega
  have e1 := six_at hi (by omega)
  have e2 := six_at lo (by omega)
  have E1 := hide e1
  have E2 := hide e2
  clear hhi hlo e1 e2
  go_enter Tryd.func26, Tryd.ntmps26
  go_wp2_with (fail)
  go_quiet (fail)
  go_wp2_with (fail)
  go_ret
  refine ⟨?_, nq, rfl⟩
  show Ending.returned (.string (sixS.extract hi (hi + 1) ++ sixS.extract lo (lo + 1))) = _
  rw [E1.out, E2.out]
  rfl
end Go.Proofs.YtmhbhpjpnmggkaaDoor
