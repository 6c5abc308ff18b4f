/- Package pmem: From. -/
import Derived.Test.YtmgeokmgidnneaaPCof
namespace Go.Proofs.Ytmgeokmgidnneaa
open Go.RowKit Go.Shelf
set_option linter.unusedVariables false

/-- A device of these bytes. -/
def fromD (m : Nat) (bs : List Nat) : St := { newD m with bytes := bs }
theorem fromD_ok {m : Nat} {bs : List Nat} (h1 : 1 ≤ m) (h2 : m ≤ 65536) (hl : bs.length = 64 * m) (hb : ∀ x ∈ bs, x < 256) : (fromD m bs).Ok :=
  ⟨h1, h2, hl, hb, fun _ _ => rfl, fun i c hc => (by cases hc), fun i c hc => (by cases hc), fun i => Nat.zero_le _, fun i k hk => (by cases hk), by show 0 ≤ _; omega⟩
end Go.Proofs.Ytmgeokmgidnneaa
