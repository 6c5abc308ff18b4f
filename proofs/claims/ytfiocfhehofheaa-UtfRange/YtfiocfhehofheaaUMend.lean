/- What utf.Mend answers, of every text of bounded size: each rune written anew. -/
import Derived.Test.YtfiocfhehofheaaURun
import Derived.Test.YtfiocfhehofheaaUShelf
import Derived.BigCall
namespace Go.Proofs.Ytfiocfhehofheaa
open Go.RowKit
set_option linter.unusedVariables false

def mendV (l : List UInt8) : List UInt8 := (runesZ l).flatMap Lib.encodeRune

set_option maxHeartbeats 1000000 in
theorem mend_any (s : ByteArray) (w : World) (hs : s.size ≤ 17592186044416) :
    Calls Try.prog 22 #[.string s] w fun e w' => e = .returned (.string ⟨(mendV (bl s)).toArray⟩) ∧ Below w.heap.size w w' := by
  go_enter Try.func22, Try.ntmps22
  go_wp2_with (go_at_call 32; refine (grow_fresh w.heap.size w.heap.size s.size _ (Nat.le_refl _) (heap_alloc_new w _) (by simp) (by omega)).mono ?_; rintro e w1 ⟨rfl, hI1, hB1⟩)
  have hsz1 : w.heap.size < w1.heap.size := by have := hB1.size; simp at this; omega
  have hB0 : Below w.heap.size w w1 := ((Below.refl _ w).alloc (Nat.le_refl _) _).trans hB1
  have hI2 : Lib.IsBuilderF 59 5 w.heap.size w.heap.size (Lib.byteCells []) w1 := Lib.IsBuilderF.of (Or.inr hI1)
  have hI3 := hI2.alloc (.stringIter s 0)
  have hit3 := World.iter_heap w1 s 0
  have hB3 : Below w.heap.size w (w1.iter s 0) := hB0.alloc (by omega) _
  have hI4 : Lib.IsBuilderF 59 5 w.heap.size w.heap.size (Lib.byteCells []) (w1.iter s 0) := hI3
  generalize w1.iter s 0 = w2 at *
  generalize w1.heap.size = K at *
  have HI := hide hI4
  have HT := hide hit3
  have HB := hide hB3
  clear hI1 hB1 hB0 hI2 hI3 hit3 hB3 hI4
  go_loopw [] (fun wr => ∃ (pos k : Nat) (acc : List UInt8), Lib.IsBuilderF 59 5 w.heap.size w.heap.size (Lib.byteCells acc) wr ∧ wr.heap[K]? = some (.stringIter s pos) ∧ Below w.heap.size w wr ∧ Inv (bl s) pos k ∧ acc = ((runesZ (bl s)).take k).flatMap Lib.encodeRune ∧ pos ≤ s.size ∧ acc.length ≤ 4 * pos) (fun wr => s.size - wr.iterPos K)
  case atStart => exact ⟨0, 0, [], HI.out, HT.out, HB.out, Inv.start _, by simp, by omega, by simp⟩
  case round =>
    clear HI HT HB
    obtain ⟨pos, k, acc, hI, hit, hbw, hInv, hacc, hps, hal⟩ := hrel
    have HIT := hide hit
    have hszr : K < wr.heap.size := (Array.getElem?_eq_some_iff.1 hit).1
    by_cases hp : pos < s.size
    · have hnx : ∀ ty, (Instr.next (.pointer (some ⟨K, 0, none⟩)) true ty).run Try.prog wr = _ := fun ty => next_at' wr K s pos ty hit hp
      have hh := hInv.here (by rw [bl_len]; exact hp)
      have hst := hInv.step (by rw [bl_len]; exact hp)
      have h1 := cw_pos ((bl s).drop pos)
      have h2 := cw_len _ (bl_drop_ne hp)
      rw [List.length_drop, bl_len] at h2
      have hrl := rune_le ((bl s).drop pos)
      have hrz : (runesZ (bl s))[k]? = some ((rune ((bl s).drop pos) : Nat) : Int) := by unfold runesZ; rw [List.getElem?_map, hh]; rfl
      generalize hr : rune ((bl s).drop pos) = r at *
      generalize hc : cw ((bl s).drop pos) = c at *
      have hI2 := hI.iterAt hit (pos + c)
      have hit2 := Lib.iterAt_heap wr K s pos (pos + c) hit
      have hbw2 := Lib.below_iterAt hbw (k := K) (by omega) s (pos + c)
      have hsz2 : w.heap.size ≤ (wr.iterAt K s (pos + c)).heap.size := by rw [Lib.iterAt_size]; omega
      generalize wr.iterAt K s (pos + c) = W2 at *
      have HRZ := hide hrz
      have HST := hide hst
      have HACC := hide hacc
      have HB2 := hide hbw2
      have HT2 := hide hit2
      clear hrz hst hacc hbw2 hit2 hh hInv hr hc hI hit hbw
      go_wp2_with (go_at_call 33; refine (writeRune_k w.heap.size w.heap.size _ _ (by omega) (by omega) _ hI2 (by rw [Lib.byteCells_length]; omega) hsz2).mono ?_; rintro e W1 ⟨rfl, h1', b1, k1⟩)
      have hl4 := Lib.runeCells_le (r : Int)
      rw [Lib.runeCells_length] at hl4
      go_roundw
      case rel =>
        refine ⟨pos + c, k + 1, acc ++ Lib.encodeRune r, ?_, k1.iter HT2.out (by omega), HB2.out.trans b1, HST.out, ?_, by omega, by simp; omega⟩
        · rw [Lib.byteCells_append, Lib.byteCells_encodeRune]; exact Or.inr h1'
        · rw [List.take_add_one, HRZ.out, HACC.out]
          simp
      case measure =>
        have e1 : W1.iterPos K = pos + c := iterPos_of (k1.iter HT2.out (by omega))
        have e2 : wr.iterPos K = pos := iterPos_of HIT.out
        rw [e1, e2]
        omega
    · have hnx : ∀ ty, (Instr.next (.pointer (some ⟨K, 0, none⟩)) true ty).run Try.prog wr = _ := fun ty => Lib.run_next_end_at wr K s pos ty hit hp
      have hk := hInv.fin (by rw [bl_len]; omega)
      have HK := hide hk
      have HACC := hide hacc
      have HB := hide hbw
      clear hk hacc hInv hit hbw
      go_wp2_with (go_at_call 34; refine (string_k w.heap.size w.heap.size acc _ hI (by omega)).mono ?_; rintro e W1 ⟨rfl, _, b1, _⟩)
      go_ret
      refine ⟨?_, HB.out.trans b1⟩
      show Ending.returned (.string ⟨acc.toArray⟩) = _
      have : acc = mendV (bl s) := by
        rw [HACC.out, HK.out, List.take_of_length_le (by rw [runesZ_len]; exact Nat.le_refl _)]
        rfl
      rw [this]
end Go.Proofs.Ytfiocfhehofheaa
