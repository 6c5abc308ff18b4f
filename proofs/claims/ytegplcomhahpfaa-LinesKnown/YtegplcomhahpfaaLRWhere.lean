/- What the document's Where answers. -/
import Derived.Test.YtegplcomhahpfaaLRPlace
namespace Go.Proofs.Ytegplcomhahpfaa
open Go.RowKit Go.Shelf
set_option linter.unusedVariables false

/-- Where the character begins that has a place. -/
def FirstAt (l : List UInt8) (i f : Nat) : Prop := (i = l.length ∧ f = i) ∨ (i < l.length ∧ St l f ∧ f ≤ i ∧ i < f + cw (l.drop f))
/-- How many characters begin ahead of a place. -/
def ahN (l : List UInt8) (j : Nat) : Nat := ((Cs 0 l).filter (fun e => decide (e.1 < j))).length

theorem cut_count {m : List UInt8} {j : Nat} (h : Bd m j) : ahN m j = (Cs 0 (m.take j)).length := by
  have hc := Cs_cut m j 0 h
  rw [Nat.zero_add] at hc
  unfold ahN
  rw [hc, List.filter_append, List.length_append]
  have h1 : (Cs 0 (m.take j)).filter (fun e => decide (e.1 < j)) = Cs 0 (m.take j) := by
    rw [List.filter_eq_self]
    intro e he
    have := Cs_mem (m.take j) 0 e he
    rw [List.length_take] at this
    simp; omega
  have h2 : (Cs j (m.drop j)).filter (fun e => decide (e.1 < j)) = [] := by
    rw [List.filter_eq_nil_iff]
    intro e he
    have := Cs_mem (m.drop j) j e he
    simp; omega
  rw [h1, h2]; rfl
theorem col_chars {l : List UInt8} {i k f : Nat} {x : Nat × Nat × Nat} (hi : i ≤ l.length) (hw : WhereAt l i k x) (hx : x.1 ≤ i) (hf : FirstAt l i f) :
    x.1 ≤ f ∧ f ≤ i ∧ ofV ((l.drop x.1).take (x.2.1 + x.2.2 - x.1)) ((i : Int) - (x.1 : Int)) = ((ahN (l.drop x.1) (f - x.1) : Int), 0) := by
  have hle := where_le hi hw
  have hB := Ls_Bd hw.1
  have hT := Ls_to hw.1
  have hmm := Ls_mem (List.mem_of_getElem? hw.1)
  obtain ⟨hk, -, hend⟩ := hw
  obtain ⟨a, b, e⟩ := x
  simp only at *
  obtain ⟨hBa, hBb, hBe⟩ := hB
  rw [show (i : Int) - (a : Int) = ((i - a : Nat) : Int) by omega]
  have hq1 := Bd_drop hBa (show a ≤ b + e by omega) hBe
  rcases hf with ⟨h1, rfl⟩ | ⟨h1, h2, h3, h4⟩
  · refine ⟨hx, Nat.le_refl _, ?_⟩
    have hbe : b + e = l.length := by omega
    have ht : (l.drop a).take (b + e - a) = l.drop a := List.take_of_length_le (by rw [List.length_drop]; omega)
    have hn : f - a = (l.drop a).length := by rw [List.length_drop]; omega
    rw [ht, hn, (order_end _).1, cut_count (.inr rfl), List.take_length]
  · have haf : a ≤ f := by
      by_cases h : a ≤ f
      · exact h
      · exfalso
        have hs : St l a := hBa.elim id (fun h => by omega)
        have := St_two hs h2 (by omega)
        omega
    refine ⟨haf, h3, ?_⟩
    have hs := (St_drop hBa haf).1 h2
    have hmf : (l.drop a).drop (f - a) = l.drop f := by rw [List.drop_drop]; congr 1; omega
    have hml : (l.drop a).length = l.length - a := List.length_drop
    generalize hm : l.drop a = m at *
    have hcc := Cs_cut m (f - a) 0 (.inl hs)
    rw [Nat.zero_add, hmf, Cs_cons _ _ (drop_ne (by omega))] at hcc
    have hat : (Cs 0 m)[(Cs 0 (m.take (f - a))).length]? = some (f - a, rune (l.drop f), cw (l.drop f)) := by rw [hcc]; simp
    have hN := ofN_at (i := i - a) hat (by simp; omega) (by simp; omega)
    have hie : i < b + e := by rcases hend with h | h <;> omega
    rw [ofV_lt (by rw [List.length_take]; omega), ofN_take hq1 (by omega), hN, cut_count (.inl hs)]
    simp
theorem line_down {l : List UInt8} {i k f k' : Nat} {x y : Nat × Nat × Nat} (hw : WhereAt l i k x) (hf : f ≤ i) (hk : k < k') (hy : (Ls l)[k']? = some y) : f < y.1 := by
  have h1 := Ls_rise hw.1 hy hk
  have h2 := (List.getElem?_eq_some_iff.1 hy).1
  rcases hw.2.2 with h | h <;> omega

set_option maxRecDepth 100000 in
set_option maxHeartbeats 1000000 in
theorem rfirst_any (s : ByteArray) (n : Nat) (w : World) (hn : n ≤ s.size) (hs : s.size ≤ 9223372036854775807) :
    Calls Try.prog 41 #[.string s, .int .i64 (n : Int)] w fun e w' => (∃ f : Nat, e = .returned (.int .i64 (f : Int)) ∧ FirstAt (bl s) n f) ∧ Below w.heap.size w w' := by
  by_cases he : n = s.size
  · have hb : ((n : Int) == (s.size : Int)) = true := by simp [he]
    have HE := hide he
    clear he
    go_enter Try.func41, Try.ntmps41
    go_wp2
    go_ret
    exact ⟨⟨n, rfl, .inl ⟨by rw [bl_len]; exact HE.out, rfl⟩⟩, Below.refl _ _⟩
  · have hb : ((n : Int) == (s.size : Int)) = false := by simp; omega
    have hns : n < s.size := by omega
    clear he
    go_enter Try.func41, Try.ntmps41
    go_wp2
    go_loopw [5] (fun q w' => ∃ pos k f : Nat, w' = w.iter s pos ∧ q = .int .i64 (f : Int) ∧ pos ≤ s.size ∧ Inv (bl s) pos k ∧ (n < pos → St (bl s) f ∧ f ≤ n ∧ n < f + cw ((bl s).drop f))) (fun _ w' => s.size - w'.iterPos w.heap.size)
    case atStart => exact ⟨0, 0, 0, rfl, rfl, by omega, Inv.start _, fun h => by omega⟩
    case round =>
      obtain ⟨pos, k, f, rfl, rfl, hps, hI, hf⟩ := hrel
      have HI := hide hI
      have HF := hide hf
      clear hI hf
      by_cases hlt : pos < s.size
      · have hnx : ∀ ty, (Instr.next (.pointer (some ⟨w.heap.size, 0, none⟩)) true ty).run Try.prog (w.iter s pos) = _ := fun ty => next_in w s pos ty hlt
        have h1 := cw_pos ((bl s).drop pos)
        have h2 := cw_len _ (bl_drop_ne hlt)
        rw [List.length_drop, bl_len] at h2
        have hst : St (bl s) pos := ⟨_, List.mem_of_getElem? (HI.out.here (by rw [bl_len]; exact hlt)), rfl⟩
        have HST := hide hst
        clear hst
        by_cases hk : pos ≤ n
        · have hk' : (pos : Int) ≤ (n : Int) := by omega
          go_wp2
          go_roundw
          case rel => exact ⟨_, k + 1, pos, rfl, rfl, by omega, HI.out.step (by rw [bl_len]; exact hlt), fun h => ⟨HST.out, hk, h⟩⟩
          case measure => simp; omega
        · have hk' : (n : Int) < (pos : Int) := by omega
          go_wp2
          go_roundw
          case rel => exact ⟨_, k + 1, f, rfl, rfl, by omega, HI.out.step (by rw [bl_len]; exact hlt), fun h => HF.out (by omega)⟩
          case measure => simp; omega
      · have hnx : ∀ ty, (Instr.next (.pointer (some ⟨w.heap.size, 0, none⟩)) true ty).run Try.prog (w.iter s pos) = _ := fun ty => run_next_end w s pos ty hlt
        go_wp2
        go_ret
        refine ⟨⟨f, rfl, .inr ⟨by rw [bl_len]; exact hns, HF.out (by omega)⟩⟩, iter_below _ _ _⟩

set_option maxRecDepth 100000 in
set_option maxHeartbeats 1000000 in
theorem rchars_any (s : ByteArray) (n : Nat) (w : World) (hs : s.size ≤ 9223372036854775807) :
    Calls Try.prog 42 #[.string s, .int .i64 (n : Int)] w fun e w' => e = .returned (.int .i64 (ahN (bl s) n : Nat)) ∧ Below w.heap.size w w' := by
  go_enter Try.func42, Try.ntmps42
  go_wp2
  go_loopw [5] (fun q w' => ∃ pos k m : Nat, w' = w.iter s pos ∧ q = .int .i64 (m : Int) ∧ pos ≤ s.size ∧ m ≤ pos ∧ Inv (bl s) pos k ∧ m = (((Cs 0 (bl s)).take k).filter (fun e => decide (e.1 < n))).length) (fun _ w' => s.size - w'.iterPos w.heap.size)
  case atStart => exact ⟨0, 0, 0, rfl, rfl, by omega, by omega, Inv.start _, rfl⟩
  case round =>
    obtain ⟨pos, k, m, rfl, rfl, hps, hmp, hI, hm⟩ := hrel
    have HI := hide hI
    have HM := hide hm
    clear hI hm
    have hmI : (m : Int) ≤ (s.size : Int) := by omega
    by_cases hlt : pos < s.size
    · have hnx : ∀ ty, (Instr.next (.pointer (some ⟨w.heap.size, 0, none⟩)) true ty).run Try.prog (w.iter s pos) = _ := fun ty => next_in w s pos ty hlt
      have h1 := cw_pos ((bl s).drop pos)
      have h2 := cw_len _ (bl_drop_ne hlt)
      rw [List.length_drop, bl_len] at h2
      have htk := take_snoc (HI.out.here (by rw [bl_len]; exact hlt))
      have HTK := hide htk
      clear htk
      have hmI2 : (m : Int) < (s.size : Int) := by omega
      by_cases hk : pos < n
      · have hk' : (pos : Int) < (n : Int) := by omega
        go_wp2
        go_roundw
        case rel => exact ⟨_, k + 1, m + 1, rfl, by go_num, by omega, by omega, HI.out.step (by rw [bl_len]; exact hlt), by rw [← HTK.out, List.filter_append, List.length_append, ← HM.out]; simp [hk]⟩
        case measure => simp; omega
      · have hk' : (n : Int) ≤ (pos : Int) := by omega
        go_wp2
        go_roundw
        case rel => exact ⟨_, k + 1, m, rfl, rfl, by omega, by omega, HI.out.step (by rw [bl_len]; exact hlt), by rw [← HTK.out, List.filter_append, List.length_append, ← HM.out]; simp [hk]⟩
        case measure => simp; omega
    · have hnx : ∀ ty, (Instr.next (.pointer (some ⟨w.heap.size, 0, none⟩)) true ty).run Try.prog (w.iter s pos) = _ := fun ty => run_next_end w s pos ty hlt
      go_wp2
      go_ret
      have h3 := HI.out.fin (by rw [bl_len]; omega)
      refine ⟨?_, iter_below _ _ _⟩
      have h4 := HM.out
      rw [h3, List.take_length] at h4
      rw [h4]; rfl
end Go.Proofs.Ytegplcomhahpfaa
