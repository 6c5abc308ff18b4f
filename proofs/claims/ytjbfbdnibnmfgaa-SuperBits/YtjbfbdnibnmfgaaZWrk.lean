/- The statements' works(): the least plan, and its line. -/
import Derived.Test.YtjbfbdnibnmfgaaZLine
import Derived.Laws.IdiomStrings
namespace Go.Proofs.Ytjbfbdnibnmfgaa
open Go.RowKit Go.Shelf
set_option linter.unusedVariables false

def nmU : List UInt8 := [86, 69, 76, 76, 85, 77, 48, 49]
theorem sb_name (x : Int) (j : Nat) (hj : j < nmU.length) : (sbX x)[j]? = some (nmU[j]).toNat := by
  have h : (sbX x)[j]? = sbName[j]? := by
    unfold sbX sbB sbPre
    have l8 : sbName.length = 8 := rfl
    have l9 : nmU.length = 8 := rfl
    rw [List.append_assoc, List.getElem?_append_left (by omega)]
  rw [h]
  have l9 : nmU.length = 8 := rfl
  obtain rfl | rfl | rfl | rfl | rfl | rfl | rfl | rfl : j = 0 ∨ j = 1 ∨ j = 2 ∨ j = 3 ∨ j = 4 ∨ j = 5 ∨ j = 6 ∨ j = 7 := by omega
  all_goals rfl
theorem OwnL.cell {w : World} {g : Nat} {bs : List Nat} (h : OwnL w g bs) (i x : Nat) (hx : bs[i]? = some x) : w.cell? ⟨g, i, none⟩ = some (.int .u8 (x : Int)) := by
  rw [cell8 h]
  simp [hx, B8]
theorem name_str {w : World} {g : Nat} {x : Int} (cap : Nat) (h : OwnL w g (sbX x)) : (convert 28 9 (.slice (some ⟨g, 0, none⟩) 8 cap)).run Try.prog w = .ok (.string ⟨#[86, 69, 76, 76, 85, 77, 48, 49]⟩) w := by
  refine run_convert_bytes_back (P := Try.prog) w 28 9 5 ⟨g, 0, none⟩ cap nmU Try.underlying28 Try.underlying5 Try.underlying9 (fun j hj => ?_)
  have e := h.cell j _ (sb_name x j hj)
  rw [Addr.add_mid, Nat.zero_add]
  exact e
theorem sb_8 : (sbX 36992)[8]? = some 128 ∧ (sbX 36992)[9]? = some 144 := by decide +kernel
set_option maxRecDepth 100000 in
set_option maxHeartbeats 400000 in
theorem works_any (w : World) : Calls Try.prog 14 #[] w fun e w' => e = .returned (.bool true) ∧ Below w.heap.size w w' := by
  have hk : okS 36992 := by unfold okS; omega
  have kp : ∀ W, Calls Try.prog 8 #[.int .i64 36992] W fun e w' => e = .returned (.tuple #[.agg #[.int .i64 36992, .int .i64 128, .int .i64 32768, .int .i64 32896, .int .i64 16], .int .i64 0]) ∧ Below W.heap.size W w' := fun W => plan_ok 36992 W hk
  have kl : ∀ W, Calls Try.prog 10 #[.agg #[.int .i64 36992, .int .i64 128, .int .i64 32768, .int .i64 32896, .int .i64 16]] W fun e w' => ∃ g, e = .returned (.tuple #[.slice (some ⟨g, 0, none⟩) 64 64, .int .i64 0]) ∧ OwnL w' g (sbX 36992) ∧ W.heap.size ≤ g ∧ Below W.heap.size W w' := fun W => line_ok 36992 W hk
  have s8 := sb_8
  have hg := Try.noGuard23
  have he := fun W => eql_su 36992 128 32768 32896 16 36992 128 32768 32896 16 W
  have hs : sameS 36992 128 32768 32896 16 36992 128 32768 32896 16 = true := by simp [sameS]
  rw [hs] at he
  have nm := fun W g cap h => name_str (w := W) (g := g) (x := 36992) cap h
  generalize sbX 36992 = sb at *
  have KP := hide kp
  have KL := hide kl
  have NM := hide nm
  have S8 := hide s8
  clear kp kl nm s8 hs hk
  go_enter Try.func14, Try.ntmps14
  go_wp2_with (first
    | (go_at_call 8; refine (KP.out _).mono ?_; rintro e W1 ⟨rfl, hB1⟩; have HB1 := hide hB1; clear hB1)
    | (go_at_call 10; refine (KL.out _).mono ?_; rintro e W2 ⟨g, rfl, ho2, hg2, hB2⟩; obtain ⟨c0, c1, c2, c3, c4⟩ := suBox (row_after hB2); have b8 := ho2.cell 8 _ S8.out.1; have b9 := ho2.cell 9 _ S8.out.2; have nm := NM.out W2 g 64 ho2; have h1 := HB1.out.alloc (o := .cells #[.int .i64 36992, .int .i64 128, .int .i64 32768, .int .i64 32896, .int .i64 16] 23) HB1.out.size; have HB2 := hide (h1.trans (hB2.mono h1.size)); clear ho2 hg2 hB2 h1))
  go_ret
  exact ⟨by simp, HB2.out⟩
end Go.Proofs.Ytjbfbdnibnmfgaa
