/- What the iterator of utf.All tells: the characters of a text, in their order, till a round says no more. -/
import Derived.Test.YtmhbhpjpnmggkaaDoorLSeq
import Derived.Lib.OthersKept
import Derived.WalkSmall
namespace Go.Proofs.YtmhbhpjpnmggkaaDoor
open Go.RowKit Go.Shelf
set_option linter.unusedVariables false
attribute [local go_sem] Oper.semAt_some

theorem nxt_at {P : Program} (w : World) (k : Nat) (s : ByteArray) (pos : Nat) (ty : TypeId) (hk : w.heap[k]? = some (.stringIter s pos)) (h : pos < s.size) :
    (Instr.next (.pointer (some ⟨k, 0, none⟩)) true ty).run P w = .ok (.tuple #[.bool true, .int .i64 pos, .int .i32 (rune ((bl s).drop pos) : Nat)]) (w.iterAt k s (pos + cw ((bl s).drop pos))) := by
  rw [Lib.run_next_any_at w k s pos ty hk h, decode_eq s pos h]; rfl
theorem sub_iterAt {H : TypeId → Prop} {B k pos : Nat} {W : World} {s : ByteArray} (h : W.heap[k]? = some (.stringIter s pos)) (hB : B ≤ k) (pos' : Nat) : Sub H B W (W.iterAt k s pos') := by
  have hb := Lib.below_iterAt (Below.refl k W) (k := k) (Nat.le_refl _) s pos'
  refine ⟨⟨hb.os, hb.tape, hb.output, hb.size⟩, fun i o hi hc => ?_⟩
  by_cases e : i = k
  · subst e
    rw [h] at hi
    cases hi
    rcases hc with h1 | h1
    · omega
    · exact absurd h1 (not_held rfl)
  · rw [Lib.iterAt_other _ _ _ _ _ e]; exact hi
/-- What is told of a character: where it begins, and its rune. -/
def encC (e : Nat × Nat × Nat) : Array Value := #[.int .i64 (e.1 : Int), .int .i32 (e.2.1 : Int)]
theorem take_snoc {α : Type} {l : List α} {k : Nat} {e : α} (h : l[k]? = some e) : l.take k ++ [e] = l.take (k + 1) := by
  rw [List.take_add_one, h]; rfl
theorem take_pre {α : Type} (l : List α) (k : Nat) : l.take k <+: l := List.take_prefix _ _

set_option maxRecDepth 100000 in
set_option maxHeartbeats 1000000 in
theorem uall_x (H : TypeId → Prop) (N : Nat → Prop) (Bs : Nat) (s : ByteArray) (w : World) (hs : s.size ≤ 9223372036854775807) (hBs : Bs < w.heap.size) (cs : w.cell? ⟨Bs, 0, none⟩ = some (.string s)) :
    SeqX H N 81 #[.pointer (some ⟨Bs, 0, none⟩)] encC (Cs 0 (bl s)) w := fun l J Jx W hW hJ hJx hY h0 => by
  have cs' := (hW.cell (p := ⟨Bs, 0, none⟩) hBs).trans cs
  refine callsIn_of_wp Tryd.func81 rfl trivial ?_ rfl
  simp only [Tryd.ntmps81, List.size_toArray, List.length_cons, List.length_nil, Nat.reduceAdd, Nat.reduceSub, Array.replicate_succ, Array.replicate_zero, List.push_toArray, List.append_toArray, List.nil_append, List.cons_append]
  have hJ0 : J [] (W.iter s 0) := hJ.alloc _ h0
  have hit0 := World.iter_heap W s 0
  have HY := hide hY
  have H0 := hide hJ0
  have HT0 := hide hit0
  clear hY h0 hJ0 hit0
  gi_wp2
  clear cs cs'
  gi_loopw [] (fun wr => ∃ pos k : Nat, pos ≤ s.size ∧ Inv (bl s) pos k ∧ wr.heap[W.heap.size]? = some (.stringIter s pos) ∧ J ((Cs 0 (bl s)).take k) wr) (fun wr => s.size - wr.iterPos W.heap.size)
  case atStart => exact ⟨0, 0, by omega, Inv.start _, HT0.out, by simpa using H0.out⟩
  case round =>
    clear H0 HT0
    obtain ⟨pos, k, hps, hI, hit, hJk⟩ := hrel
    have HIT := hide hit
    by_cases hlt : pos < s.size
    · have hnx : ∀ ty, (Instr.next (.pointer (some ⟨W.heap.size, 0, none⟩)) true ty).run Tryd.prog wr = _ := fun ty => nxt_at wr W.heap.size s pos ty hit hlt
      have hh := hI.here (by rw [bl_len]; exact hlt)
      have hst := hI.step (by rw [bl_len]; exact hlt)
      have h1 := cw_pos ((bl s).drop pos)
      have h2 := cw_len _ (bl_drop_ne hlt)
      rw [List.length_drop, bl_len] at h2
      have hpre : (Cs 0 (bl s)).take k ++ [(pos, rune ((bl s).drop pos), cw ((bl s).drop pos))] = (Cs 0 (bl s)).take (k + 1) := take_snoc hh
      generalize hr : rune ((bl s).drop pos) = r at *
      generalize hc : cw ((bl s).drop pos) = c at *
      have hJ2 := hJ _ _ _ hJk (sub_iterAt hit (Nat.le_refl _) (pos + c))
      have hit2 := Lib.iterAt_heap wr W.heap.size s pos (pos + c) hit
      generalize wr.iterAt W.heap.size s (pos + c) = W2 at *
      obtain ⟨fn, tmps, assign, body, hy, hR⟩ := HY.out ((Cs 0 (bl s)).take k) (pos, r, c) W2 hJ2 (by rw [hpre]; exact take_pre _ _)
      simp only [encC] at hy
      have HST := hide hst
      have HP := hide hpre
      have HT2 := hide hit2
      have HR := hide hR
      clear HY hJk hJ2 hst hpre hit2 hit hI hh hr hc hR
      gi_wp2
      refine HR.out.mono ?_
      rintro e W3 (⟨rfl, hJ3, hK3⟩ | ⟨rfl, hJx3, hK3⟩)
      · have hit3 : W3.heap[W.heap.size]? = some (.stringIter s (pos + c)) := hK3.2 _ _ HT2.out (.inr ⟨Nat.le_refl _, not_held rfl⟩)
        have HT3 := hide hit3
        have HJ3 := hide hJ3
        clear hit3 hJ3 hK3 HR hy
        gi_wp2
        go_roundw
        case rel => exact ⟨pos + c, k + 1, by omega, HST.out, HT3.out, by rw [← HP.out]; exact HJ3.out⟩
        case measure =>
          have e1 : W3.iterPos W.heap.size = pos + c := iterPos_of HT3.out
          have e2 : wr.iterPos W.heap.size = pos := iterPos_of HIT.out
          rw [e1, e2]; omega
      · have HJ3 := hide hJx3
        clear hJx3 hK3 HR hy
        gi_wp2
        refine bodyPost_ret (results_none rfl _ _ _) rfl ?_
        exact ⟨⟨_, rfl⟩, .inr ⟨_, by rw [HP.out]; exact take_pre _ _, HJ3.out⟩⟩
    · have hnx : ∀ ty, (Instr.next (.pointer (some ⟨W.heap.size, 0, none⟩)) true ty).run Tryd.prog wr = _ := fun ty => Lib.run_next_end_at wr W.heap.size s pos ty hit hlt
      have hfin := hI.fin (by rw [bl_len]; omega)
      rw [hfin, List.take_length] at hJk
      have HJ := hide hJk
      clear hJk HY hit hI hfin
      gi_wp2
      go_end0
      exact ⟨⟨_, rfl⟩, .inl HJ.out⟩

theorem uall_in (s : ByteArray) (w : World) :
    CallsIn Fence.wide 2 Tryd.prog 67 #[.string s] w fun e w' => e = .returned (.func (.func 81) #[] #[.pointer (some ⟨w.heap.size, 0, none⟩)]) ∧ w' = w.alloc (.cells #[.string s] 9) := by
  refine callsIn_of_wp Tryd.func67 rfl trivial ?_ rfl
  simp only [Tryd.ntmps67, List.size_toArray, List.length_cons, List.length_nil, Nat.reduceAdd, Nat.reduceSub, Array.replicate_succ, Array.replicate_zero, List.push_toArray, List.append_toArray, List.nil_append, List.cons_append]
  gi_wp2
  go_ret
  exact ⟨rfl, rfl⟩
end Go.Proofs.YtmhbhpjpnmggkaaDoor
