/- What the iterator of utf.Back tells: the characters of a text, from behind, till a round says no more. -/
import Derived.Test.YtdjkbldbihpocaaLAll
import Derived.Test.YtdjkbldbihpocaaUSeam
namespace Go.Proofs.Ytdjkbldbihpocaa
open Go.RowKit Go.Shelf
set_option linter.unusedVariables false
attribute [local go_sem] Oper.semAt_some

/-- A place at which a character begins, or the end. -/
def Bd (l : List UInt8) (i : Nat) : Prop := St l i ∨ i = l.length
theorem Bd.le {l : List UInt8} {i : Nat} (h : Bd l i) : i ≤ l.length := h.elim (fun h => Nat.le_of_lt (St_lt h)) (fun h => by omega)
theorem cw_of_W {a b : List UInt8} (h : W a = W b) : cw a = cw b := by unfold cw; rw [h]
/-- The character ahead of a place. -/
theorem back_step (l : List UInt8) (pos : Nat) (h : Bd l pos) (h0 : 0 < pos) :
    ∃ p r c : Nat, ((lastV (l.take pos)).1 = (r : Int) ∧ (lastV (l.take pos)).2.1 = (c : Int)) ∧ p + c = pos ∧ 1 ≤ c ∧ Bd l p ∧ Cs p (l.drop p) = (p, r, c) :: Cs pos (l.drop pos) := by
  have hle := h.le
  have hml : (l.take pos).length = pos := by rw [List.length_take]; omega
  have hm : l.take pos ≠ [] := fun e => by rw [e] at hml; simp at hml; omega
  obtain ⟨hS, hE, -⟩ := last_iff (l.take pos) hm
  generalize hj : lastAt (l.take pos) = j at *
  rw [hml] at hE
  have hjlt := St_lt hS
  rw [hml] at hjlt
  have hcut := Cs_cut l pos 0 h
  have hSl : St l j := by
    obtain ⟨e, he, rfl⟩ := hS
    exact ⟨e, by rw [hcut]; exact List.mem_append_left _ he, rfl⟩
  have hd : (l.take pos).drop j = (l.drop j).take (pos - j) := by rw [List.drop_take]
  have hcl : j + cw (l.drop j) ≤ pos := by
    rcases h with h | h
    · exact St_two h hSl hjlt
    · have := cw_len (l.drop j) (drop_ne (by omega))
      rw [List.length_drop] at this
      omega
  have hWl := W_le_cw (l.drop j)
  have hW : W ((l.take pos).drop j) = W (l.drop j) := by rw [hd]; exact W_take_le (by omega) (by omega)
  have hc := cw_of_W hW
  have hr : rune ((l.take pos).drop j) = rune (l.drop j) := by rw [hd]; exact rune_take (by omega) (by omega)
  have hv : lastV (l.take pos) = firstV ((l.take pos).drop j) := by unfold lastV; rw [if_neg hm, hj]
  have hdn : (l.take pos).drop j ≠ [] := drop_ne (by rw [hml]; exact hjlt)
  have hcp := cw_pos (l.drop j)
  refine ⟨j, rune (l.drop j), cw (l.drop j), ?_, by rw [← hc]; exact hE, hcp, .inl hSl, ?_⟩
  · rw [hv, firstV_ne hdn, hr, hc]; exact ⟨rfl, rfl⟩
  · have e : j + cw (l.drop j) = pos := by rw [← hc]; exact hE
    rw [Cs_cons j _ (drop_ne (by omega)), List.drop_drop, e]
/-- What is told from behind down to a place. -/
def Rs (l : List UInt8) (pos : Nat) : List (Nat × Nat × Nat) := (Cs pos (l.drop pos)).reverse
theorem Rs_pre (l : List UInt8) (pos : Nat) (h : Bd l pos) : Rs l pos <+: (Cs 0 l).reverse := by
  unfold Rs
  rw [Cs_cut l pos 0 h, List.reverse_append, Nat.zero_add]
  exact List.prefix_append _ _
theorem Rs_end (l : List UInt8) : Rs l l.length = [] := by unfold Rs; simp [Cs_nil]
theorem Rs_zero (l : List UInt8) : Rs l 0 = (Cs 0 l).reverse := rfl

set_option maxRecDepth 100000 in
set_option maxHeartbeats 1000000 in
theorem uback_x (H : TypeId → Prop) (N : Nat → Prop) (Bs : Nat) (s : ByteArray) (w : World) (hs : s.size ≤ 9223372036854775807) (hBs : N Bs) (hBl : Bs < w.heap.size) (cs : w.cell? ⟨Bs, 0, none⟩ = some (.string s)) :
    SeqX H N 25 #[.pointer (some ⟨Bs, 0, none⟩)] encC (Cs 0 (bl s)).reverse w := fun l J Jx W hW hJ hJx hY h0 => by
  have cs' := (hW.cell (p := ⟨Bs, 0, none⟩) hBl).trans cs
  refine callsIn_of_wp Try.func25 rfl trivial ?_ rfl
  simp only [Try.ntmps25, List.size_toArray, List.length_cons, List.length_nil, Nat.reduceAdd, Nat.reduceSub, Array.replicate_succ, Array.replicate_zero, List.push_toArray, List.append_toArray, List.nil_append, List.cons_append]
  have HY := hide hY
  have H0 := hide h0
  clear hY h0 cs
  have hex : ∀ pos : Nat, pos ≤ s.size → bl (s.extract 0 pos) = (bl s).take pos := fun pos _ => bl_to s pos
  have HX := hide hex
  clear hex
  gi_wp2
  gi_loopw [3] (fun q wr => ∃ pos : Nat, q = .int .i64 (pos : Int) ∧ Bd (bl s) pos ∧ J (Rs (bl s) pos) wr ∧ Below w.heap.size w W ∧ wr.cell? ⟨Bs, 0, none⟩ = some (.string s)) (fun q _ => (intOf q).toNat)
  case atStart => exact ⟨s.size, rfl, .inr (bl_len s).symm, by rw [← bl_len s, Rs_end]; exact H0.out, hW, cs'⟩
  case round =>
    clear H0 cs'
    obtain ⟨pos, rfl, hbd, hJk, -, csr⟩ := hrel
    have hps := hbd.le
    rw [bl_len] at hps
    by_cases hlt : 0 < pos
    · have hl1 : decide ((0 : Int) < (pos : Int)) = true := by simp; omega
      obtain ⟨p, r, c, ⟨hv1, hv2⟩, hpc, hc1, hbp, hcs⟩ := back_step (bl s) pos hbd hlt
      have hcall : ∀ w', Calls Try.prog 26 #[.string (s.extract 0 pos)] w' fun e w'' => e = .returned (.tuple #[.int .i32 (r : Int), .int .i64 (c : Int), .bool (lastV (bl (s.extract 0 pos))).2.2]) ∧ Below w'.heap.size w' w'' := by
        intro w'
        have h := last_any (s.extract 0 pos) w' (by simp; omega)
        have e : bl (s.extract 0 pos) = (bl s).take pos := HX.out pos hps
        rw [e] at h ⊢
        rw [hv1, hv2] at h
        exact h
      generalize (lastV (bl (s.extract 0 pos))).2.2 = g at hcall
      have hsub : (pos : Int) - (c : Int) = (p : Int) := by omega
      have hpre : Rs (bl s) pos ++ [(p, r, c)] = Rs (bl s) p := by unfold Rs; rw [hcs, List.reverse_cons]
      have hpre2 := Rs_pre (bl s) p hbp
      rw [← hpre] at hpre2
      have HC := hide hcall
      have HBD := hide hbp
      have HP := hide hpre
      have HP2 := hide hpre2
      have HJ := hide hJk
      have HN := hide (show p < pos by omega)
      have HPL := hide (show (p : Int) ≤ 9223372036854775807 by omega)
      have hpI : (pos : Int) ≤ (s.size : Int) := by omega
      have CS := hide csr
      clear hv1 hv2 hcs hbp hpre hpre2 hcall hJk hbd hpc hc1
      gi_wp2_with (refine ⟨trivial, ?_⟩; gi_at_call 26; refine (inW (HC.out _)).mono ?_; rintro e w1 ⟨rfl, hB1⟩)
      have hJ1 : J (Rs (bl s) pos) w1 := hJ _ _ _ HJ.out (Sub.of_below hB1)
      have cs1 : w1.cell? ⟨Bs, 0, none⟩ = some (.string s) := (hB1.cell (p := ⟨Bs, 0, none⟩) (World.block_lt_of_cell? wr _ CS.out)).trans CS.out
      obtain ⟨fn, tmps, assign, body, hy, hR⟩ := HY.out (Rs (bl s) pos) (p, r, c) w1 hJ1 HP2.out
      simp only [encC] at hy
      have HR := hide hR
      have CS1 := hide cs1
      clear HY hR cs1 csr hJ1 CS HJ HP2 HC
      rw [hy]
      gi_wp2
      refine HR.out.mono ?_
      rintro e W3 (⟨rfl, hJ3, hK3⟩ | ⟨rfl, hJx3, hK3⟩)
      · have HJ3 := hide hJ3
        have CS3 := hide (hK3.cell hBs CS1.out)
        clear hJ3 hK3 HR hy CS1
        gi_wp2
        go_roundw
        case rel => exact ⟨p, rfl, HBD.out, by rw [← HP.out]; exact HJ3.out, hW, CS3.out⟩
        case measure => have := HN.out; simp [intOf]; omega
      · have HJ3 := hide hJx3
        clear hJx3 hK3 HR hy
        gi_wp2
        refine bodyPost_ret (results_none rfl _ _ _) rfl ?_
        exact ⟨⟨_, rfl⟩, .inr ⟨_, by rw [HP.out]; exact Rs_pre _ _ HBD.out, HJ3.out⟩⟩
    · have hl1 : decide ((0 : Int) < (pos : Int)) = false := by simp; omega
      have e0 : pos = 0 := by omega
      subst e0
      rw [Rs_zero] at hJk
      have HJ := hide hJk
      clear hJk HY hbd
      gi_wp2
      go_end0
      exact ⟨⟨_, rfl⟩, .inl HJ.out⟩
theorem uback_in (s : ByteArray) (w : World) :
    CallsIn Fence.wide 2 Try.prog 23 #[.string s] w fun e w' => e = .returned (.func (.func 25) #[] #[.pointer (some ⟨w.heap.size, 0, none⟩)]) ∧ w' = w.alloc (.cells #[.string s] 9) := by
  refine callsIn_of_wp Try.func23 rfl trivial ?_ rfl
  simp only [Try.ntmps23, List.size_toArray, List.length_cons, List.length_nil, Nat.reduceAdd, Nat.reduceSub, Array.replicate_succ, Array.replicate_zero, List.push_toArray, List.append_toArray, List.nil_append, List.cons_append]
  gi_wp2
  go_ret
  exact ⟨rfl, rfl⟩
end Go.Proofs.Ytdjkbldbihpocaa
