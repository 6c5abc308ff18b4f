/- What the iterator of utf.Wrong tells: the wrong bytes of a text, rising, till a round says no more. -/
import Derived.Test.YtfiocfhehofheaaKBk
namespace Go.Proofs.Ytfiocfhehofheaa
open Go.RowKit Go.Shelf
set_option linter.unusedVariables false
attribute [local go_sem] Oper.semAt_some

/-- A character that is a wrong byte: it tells FFFD and is one byte wide. -/
def isW (e : Nat × Nat × Nat) : Bool := decide (e.2.1 = 65533) && decide (e.2.2 = 1)
def Ws (l : List UInt8) : List (Nat × Nat × Nat) := (Cs 0 l).filter isW
def encW (e : Nat × Nat × Nat) : Array Value := #[.int .i64 (e.1 : Int)]
theorem filt_pre {α : Type} (p : α → Bool) (l : List α) (k : Nat) : (l.take k).filter p <+: l.filter p := by
  conv => rhs; rw [← List.take_append_drop k l]
  rw [List.filter_append]
  exact List.prefix_append _ _
theorem isW_W {l : List UInt8} (p : Nat) (h : l ≠ []) : isW (p, rune l, cw l) = decide (W l = 0) := by
  unfold isW
  by_cases hW : W l = 0
  · simp [hW, cw_0 hW, rune_0 hW]
  · have hr := right_eq l
    rw [decide_eq_true hW] at hr
    have hc := cw_W hW
    simp only [Bool.or_eq_true, decide_eq_true_eq, Bool.and_eq_true] at hr
    rw [decide_eq_false hW]
    simp only [Bool.and_eq_false_imp, decide_eq_true_eq, decide_eq_false_iff_not]
    intro h1 h2
    rcases hr with h3 | h3
    · omega
    · exact h3.2 h1

set_option maxRecDepth 100000 in
set_option maxHeartbeats 1000000 in
theorem uwrong_x (H : TypeId → Prop) (N : Nat → Prop) (Bs : Nat) (s : ByteArray) (w : World) (hs : s.size ≤ 9223372036854775807) (hBs : N Bs) (hBl : Bs < w.heap.size) (cs : w.cell? ⟨Bs, 0, none⟩ = some (.string s)) :
    SeqX H N 31 #[.pointer (some ⟨Bs, 0, none⟩)] encW (Ws (bl s)) w := fun l J Jx W hW hJ hJx hY h0 => by
  have cs' := (hW.cell (p := ⟨Bs, 0, none⟩) hBl).trans cs
  have hBW : Bs < W.heap.size := by have := hW.size; omega
  refine callsIn_of_wp Try.func31 rfl trivial ?_ rfl
  simp only [Try.ntmps31, List.size_toArray, List.length_cons, List.length_nil, Nat.reduceAdd, Nat.reduceSub, Array.replicate_succ, Array.replicate_zero, List.push_toArray, List.append_toArray, List.nil_append, List.cons_append]
  have hJ0 : J [] (W.iter s 0) := hJ.alloc _ h0
  have hit0 := World.iter_heap W s 0
  have csi : (W.iter s 0).cell? ⟨Bs, 0, none⟩ = some (.string s) := by
    have := ((Below.refl _ W).alloc (Nat.le_refl _) (.stringIter s 0)).cell (p := ⟨Bs, 0, none⟩) hBW
    exact this.trans cs'
  have HY := hide hY
  have H0 := hide hJ0
  have HT0 := hide hit0
  have CS0 := hide csi
  have HBW := hide hBW
  clear hY h0 hJ0 hit0 cs csi
  have hex : ∀ pos : Nat, pos ≤ s.size → bl (s.extract pos s.size) = (bl s).drop pos := fun pos _ => by rw [bl_extract, List.take_of_length_le]; rw [List.length_drop, bl_len]; omega
  have HX := hide hex
  clear hex
  gi_wp2
  clear cs'
  gi_loopw [] (fun wr => ∃ pos k : Nat, pos ≤ s.size ∧ Inv (bl s) pos k ∧ wr.heap[W.heap.size]? = some (.stringIter s pos) ∧ J (((Cs 0 (bl s)).take k).filter isW) wr ∧ wr.cell? ⟨Bs, 0, none⟩ = some (.string s)) (fun wr => s.size - wr.iterPos W.heap.size)
  case atStart => exact ⟨0, 0, by omega, Inv.start _, HT0.out, by simpa using H0.out, CS0.out⟩
  case round =>
    clear H0 HT0 CS0
    obtain ⟨pos, k, hps, hI, hit, hJk, csr⟩ := hrel
    have HIT := hide hit
    by_cases hlt : pos < s.size
    · have hnx : ∀ ty, (Instr.next (.pointer (some ⟨W.heap.size, 0, none⟩)) true ty).run Try.prog wr = _ := fun ty => nxt_at wr W.heap.size s pos ty hit hlt
      have hh := hI.here (by rw [bl_len]; exact hlt)
      have hst := hI.step (by rw [bl_len]; exact hlt)
      have h1 := cw_pos ((bl s).drop pos)
      have h2 := cw_len _ (bl_drop_ne hlt)
      rw [List.length_drop, bl_len] at h2
      have hpre : (Cs 0 (bl s)).take k ++ [(pos, rune ((bl s).drop pos), cw ((bl s).drop pos))] = (Cs 0 (bl s)).take (k + 1) := take_snoc hh
      have hisw := isW_W pos (bl_drop_ne hlt)
      have hfv : ∀ w', Calls Try.prog 13 #[.string (s.extract pos s.size)] w' fun e w'' => e = .returned (.tuple #[.int .i32 (rune ((bl s).drop pos) : Int), .int .i64 (cw ((bl s).drop pos) : Int), .bool (!isW (pos, rune ((bl s).drop pos), cw ((bl s).drop pos)))]) ∧ Below w'.heap.size w' w'' := by
        intro w'
        have h := first_any (s.extract pos s.size) w' (by simp; omega)
        have e : bl (s.extract pos s.size) = (bl s).drop pos := HX.out pos hps
        rw [e, firstV_ne (bl_drop_ne hlt)] at h
        rw [hisw]
        refine h.mono ?_
        rintro e w'' ⟨rfl, hB⟩
        refine ⟨?_, hB⟩
        congr 4
        simp
      have hnw : rune ((bl s).drop pos) ≠ 65533 → isW (pos, rune ((bl s).drop pos), cw ((bl s).drop pos)) = false := fun h => by unfold isW; simp [h]
      clear hisw
      generalize hr : rune ((bl s).drop pos) = r at *
      generalize hc : cw ((bl s).drop pos) = c at *
      have hJ2 := hJ _ _ _ hJk (sub_iterAt hit (Nat.le_refl _) (pos + c))
      have hit2 := Lib.iterAt_heap wr W.heap.size s pos (pos + c) hit
      have cs2 : (wr.iterAt W.heap.size s (pos + c)).cell? ⟨Bs, 0, none⟩ = some (.string s) := by
        have hb := Lib.below_iterAt (Below.refl W.heap.size wr) (k := W.heap.size) (Nat.le_refl _) s (pos + c)
        exact (hb.cell (p := ⟨Bs, 0, none⟩) HBW.out).trans csr
      generalize wr.iterAt W.heap.size s (pos + c) = W2 at *
      have HST := hide hst
      have HP := hide hpre
      have hposI : (pos : Int) ≤ (s.size : Int) := by omega
      by_cases hr1 : r = 65533
      · subst hr1
        cases hw : isW (pos, 65533, c) with
        | false =>
          have hpre2 : ((Cs 0 (bl s)).take (k + 1)).filter isW = ((Cs 0 (bl s)).take k).filter isW := by rw [← hpre, List.filter_append]; simp [hw]
          rw [← hpre2] at hJ2
          rw [hw] at hfv
          have HC := hide hfv
          have HJ := hide hJ2
          have HT2 := hide hit2
          have CS2 := hide cs2
          clear HY hJk hJ2 hst hpre hit2 hit hI hh hr hc hfv csr hpre2 hnw hw
          gi_wp2_with (refine ⟨trivial, ?_⟩; gi_at_call 13; refine (inW (HC.out _)).mono ?_; rintro e w1 ⟨rfl, hB1⟩)
          refine ⟨fun f h => (by cases h), ?_⟩
          gi_wp2
          go_roundw
          case rel => exact ⟨pos + c, k + 1, by omega, HST.out, (hB1.block _ (Array.getElem?_eq_some_iff.1 HT2.out).1).trans HT2.out, hJ _ _ _ HJ.out (Sub.of_below hB1), (hB1.cell (p := ⟨Bs, 0, none⟩) (World.block_lt_of_cell? _ _ CS2.out)).trans CS2.out⟩
          case measure =>
            have e1 : w1.iterPos W.heap.size = pos + c := iterPos_of ((hB1.block _ (Array.getElem?_eq_some_iff.1 HT2.out).1).trans HT2.out)
            have e2 : wr.iterPos W.heap.size = pos := iterPos_of HIT.out
            rw [e1, e2]; omega
        | true =>
          have hpre2 : ((Cs 0 (bl s)).take k).filter isW ++ [(pos, 65533, c)] = ((Cs 0 (bl s)).take (k + 1)).filter isW := by rw [← hpre, List.filter_append]; simp [hw]
          have hfp : ((Cs 0 (bl s)).take k).filter isW ++ [(pos, 65533, c)] <+: Ws (bl s) := by rw [hpre2]; exact filt_pre _ _ _
          rw [hw] at hfv
          have HC := hide hfv
          have HJ := hide hJ2
          have HT2 := hide hit2
          have CS2 := hide cs2
          have HP2 := hide hpre2
          have HFP := hide hfp
          clear hJk hJ2 hst hpre hit2 hit hI hh hr hc hfv csr hpre2 hnw hw hfp
          gi_wp2_with (refine ⟨trivial, ?_⟩; gi_at_call 13; refine (inW (HC.out _)).mono ?_; rintro e w1 ⟨rfl, hB1⟩)
          have hJ1 := hJ _ _ _ HJ.out (Sub.of_below hB1)
          have hit1 := (hB1.block _ (Array.getElem?_eq_some_iff.1 HT2.out).1).trans HT2.out
          have cs1 := (hB1.cell (p := ⟨Bs, 0, none⟩) (World.block_lt_of_cell? _ _ CS2.out)).trans CS2.out
          obtain ⟨fn, tmps, assign, body, hy, hR⟩ := HY.out _ (pos, 65533, c) w1 hJ1 HFP.out
          simp only [encW] at hy
          have HR := hide hR
          have CS1 := hide cs1
          have HT1 := hide hit1
          clear HY hR cs1 hJ1 hit1 CS2 HJ HT2 HC hB1
          rw [hy]
          gi_wp2
          refine HR.out.mono ?_
          rintro e W3 (⟨rfl, hJ3, hK3⟩ | ⟨rfl, hJx3, hK3⟩)
          · have hit3 : W3.heap[W.heap.size]? = some (.stringIter s (pos + c)) := hK3.2 _ _ HT1.out (.inr ⟨Nat.le_refl _, not_held rfl⟩)
            have HT3 := hide hit3
            have HJ3 := hide hJ3
            have CS3 := hide (hK3.cell hBs CS1.out)
            clear hit3 hJ3 hK3 HR hy CS1 HT1
            gi_wp2
            go_roundw
            case rel => exact ⟨pos + c, k + 1, by omega, HST.out, HT3.out, by rw [← HP2.out]; exact HJ3.out, CS3.out⟩
            case measure =>
              have e1 : W3.iterPos W.heap.size = pos + c := iterPos_of HT3.out
              have e2 : wr.iterPos W.heap.size = pos := iterPos_of HIT.out
              rw [e1, e2]; omega
          · have HJ3 := hide hJx3
            clear hJx3 hK3 HR hy
            gi_wp2
            refine bodyPost_ret (results_none rfl _ _ _) rfl ?_
            exact ⟨⟨_, rfl⟩, .inr ⟨_, HFP.out, HJ3.out⟩⟩
      · have hr2 : ((r : Int) != 65533) = true := by simp; omega
        have hpre2 : ((Cs 0 (bl s)).take (k + 1)).filter isW = ((Cs 0 (bl s)).take k).filter isW := by rw [← hpre, List.filter_append]; simp [hnw hr1]
        rw [← hpre2] at hJ2
        have HJ := hide hJ2
        have HT2 := hide hit2
        have CS2 := hide cs2
        clear HY hJk hJ2 hst hpre hit2 hit hI hh hr hc hfv csr hpre2 hnw hr1
        gi_wp2
        go_roundw
        case rel => exact ⟨pos + c, k + 1, by omega, HST.out, HT2.out, HJ.out, CS2.out⟩
        case measure =>
          have e1 : W2.iterPos W.heap.size = pos + c := iterPos_of HT2.out
          have e2 : wr.iterPos W.heap.size = pos := iterPos_of HIT.out
          rw [e1, e2]; omega
    · have hnx : ∀ ty, (Instr.next (.pointer (some ⟨W.heap.size, 0, none⟩)) true ty).run Try.prog wr = _ := fun ty => Lib.run_next_end_at wr W.heap.size s pos ty hit hlt
      have hfin := hI.fin (by rw [bl_len]; omega)
      rw [hfin, List.take_length] at hJk
      have HJ := hide hJk
      clear hJk HY hit hI hfin
      gi_wp2
      go_end0
      exact ⟨⟨_, rfl⟩, .inl HJ.out⟩
theorem uwrong_in (s : ByteArray) (w : World) :
    CallsIn Fence.wide 2 Try.prog 18 #[.string s] w fun e w' => e = .returned (.func (.func 31) #[] #[.pointer (some ⟨w.heap.size, 0, none⟩)]) ∧ w' = w.alloc (.cells #[.string s] 9) := by
  refine callsIn_of_wp Try.func18 rfl trivial ?_ rfl
  simp only [Try.ntmps18, List.size_toArray, List.length_cons, List.length_nil, Nat.reduceAdd, Nat.reduceSub, Array.replicate_succ, Array.replicate_zero, List.push_toArray, List.append_toArray, List.nil_append, List.cons_append]
  gi_wp2
  go_ret
  exact ⟨rfl, rfl⟩
end Go.Proofs.Ytfiocfhehofheaa
