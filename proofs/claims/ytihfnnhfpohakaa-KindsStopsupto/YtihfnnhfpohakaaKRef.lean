/- What the document's rune functions answer. -/
import Derived.Test.YtihfnnhfpohakaaKPure
import Derived.Deep.QuietTactic
import Derived.BigQuiet
import Derived.WalkSmall
import Derived.RangeFuncBox
namespace Go.Proofs.Ytihfnnhfpohakaa
open Go.RowKit
set_option linter.unusedVariables false

/-- Ranges as numbers one behind the other. -/
def inZ (r : Int) : List Int → Bool
  | a :: b :: t => inB r a b || inZ r t
  | _ => false
/-- What a block of runes holds. -/
def CellsZ (w : World) (b : Nat) (zs : List Int) : Prop := ∀ (i : Nat) (x : Int), zs[i]? = some x → w.cell? ⟨b, i, none⟩ = some (.int .i32 x)
theorem inZ_short {r : Int} {l : List Int} (h : l.length ≤ 1) : inZ r l = false := by
  match l, h with
  | [], _ => rfl
  | [_], _ => rfl
theorem drop_two {zs : List Int} {i : Nat} (h : i + 1 < zs.length) : ∃ a b, zs[i]? = some a ∧ zs[i + 1]? = some b ∧ zs.drop i = a :: b :: zs.drop (i + 2) := by
  refine ⟨zs[i], zs[i + 1], List.getElem?_eq_getElem _, List.getElem?_eq_getElem _, ?_⟩
  rw [List.drop_eq_getElem_cons (by omega), List.drop_eq_getElem_cons (i := i + 1) (by omega)]

set_option maxHeartbeats 1000000 in
theorem rwithin_any (r : Int) (b : Nat) (zs : List Int) (w : World) (hc : CellsZ w b zs) (hn : zs.length ≤ 1000) :
    Calls Try.prog 44 #[.int .i32 r, .slice (some ⟨b, 0, none⟩) zs.length zs.length] w fun e w' => e = .returned (.bool (inZ r zs)) ∧ w' = w := by
  generalize hR : inZ r zs = R
  have HR := hide hR
  clear hR
  go_enter Try.func44, Try.ntmps44
  go_wp2
  go_loopw [5] (fun q wr => ∃ i : Nat, q = .int .i64 (i : Int) ∧ i ≤ zs.length + 1 ∧ inZ r (zs.drop i) = R ∧ wr = w) (fun q _ => zs.length + 2 - (intOf q).toNat)
  case atStart => exact ⟨0, rfl, by omega, by simpa using HR.out, rfl⟩
  case round =>
    clear HR
    obtain ⟨i, rfl, hi, hz, rfl⟩ := hrel
    by_cases hlt : i + 1 < zs.length
    · have hl1 : ((i : Int) + 1 < (zs.length : Int)) := by omega
      obtain ⟨x, y, hx, hy, hd⟩ := drop_two hlt
      have hcx := hc _ _ hx
      have hcy := hc _ _ hy
      rw [hd] at hz
      simp only [inZ] at hz
      clear hc hd hx hy
      by_cases h1 : x ≤ r
      · by_cases h2 : r ≤ y
        · have e : inB r x y = true := by unfold inB; simp [h1, h2]
          rw [e, Bool.true_or] at hz
          subst hz
          clear e
          go_wp2
          go_ret
          exact ⟨rfl, rfl⟩
        · have e : inB r x y = false := by unfold inB; simp only [decide_eq_false h2, Bool.and_false]
          rw [e, Bool.false_or] at hz
          have HZ := hide hz
          have h2' : y < r := by omega
          clear e hz h2
          go_wp2
          go_roundw
          case rel => exact ⟨i + 2, rfl, by omega, HZ.out, trivial⟩
          case measure => simp [intOf]; omega
      · have e : inB r x y = false := by unfold inB; simp only [decide_eq_false h1, Bool.false_and]
        rw [e, Bool.false_or] at hz
        have HZ := hide hz
        have h1' : r < x := by omega
        clear e hz h1
        go_wp2
        go_roundw
        case rel => exact ⟨i + 2, rfl, by omega, HZ.out, trivial⟩
        case measure => simp [intOf]; omega
    · have hl1 : ((zs.length : Int) ≤ (i : Int) + 1) := by omega
      rw [inZ_short (by rw [List.length_drop]; omega)] at hz
      subst hz
      clear hc
      go_wp2
      go_ret
      exact ⟨rfl, rfl⟩

end Go.Proofs.Ytihfnnhfpohakaa
