/- Package pmem: Contents. -/
import Derived.Test.YtkdonacnnienaaaPBz
namespace Go.Proofs.Ytkdonacnnienaaa
open Go.RowKit Go.Shelf
set_option linter.unusedVariables false

section
variable {w : World} {b : Nat} {L : Lay} {σ : St}
set_option maxRecDepth 100000 in
set_option maxHeartbeats 1000000 in
theorem pcont_any (i : Nat) (h : DevL w b L σ) (hok : σ.Ok) (hi : i < σ.n) : Calls Try.prog 18 #[.pointer (some ⟨b, 0, none⟩), .int .i64 (i : Int)] w fun e w' => ∃ lv, e = .returned lv ∧ RowsB w' w.heap.size lv (σ.past i ++ [σ.line i]) ∧ Below w.heap.size w w' := by
  obtain ⟨i0, hi0, hz0, hz1, hz2⟩ := infoRow
  have hmx := hok.max
  have kn := pnone_any h
  have c1 := h.c1
  have c2 := h.c2
  have iI : (i : Int) < (σ.n : Int) := by omega
  have nI : (σ.n : Int) ≤ 65536 := by omega
  have hwf := wfI (i := i) (by omega)
  have hll := line_len hok hi
  have l0 := fun W => index_line L.sb i σ.n σ.n hi W
  have hfew := hok.few i
  have hopm := hok.opsm
  have KN := hide kn
  have HLL := hide hll
  have HOLD := hide h.old
  have HD := hide h
  have HOK := hide hok
  by_cases hp : σ.past i = []
  · have hof : oldF L σ (i : Int) = none := by unfold oldF; rw [if_neg (fun h => h.2 (by simpa using hp))]
    have HOF := hide hof
    have hlr := line_range h hok hi
    have HLR := hide hlr
    have KB := hide (pcb_any w (σ.line i) hll)
    obtain ⟨vals, o1, o2, o3⟩ := RowsB.nil w w.heap.size
    rw [← hp] at o2 o3
    have O1 := hide o1
    have O2 := hide o2
    have O3 := hide o3
    have HV := hide (Below.refl w.heap.size w)
    obtain ⟨q, hq⟩ : ∃ q, q = (σ.past i).length := ⟨_, rfl⟩
    have hq0 : ([] : List (List Nat)).length = q := by rw [hq, hp]
    rw [hq0] at O1
    have HQ := hide hq
    have hq1 : q ≤ 274877906944 := by omega
    clear h hok kn hp hof hlr hll o1 o2 o3 hq hq0 hfew hopm
    go_enter Try.func18, Try.ntmps18
    go_wp2_with (first | (go_at_call 41; refine (KN.out).mono ?_; rintro e w' ⟨rfl, hw⟩; obtain rfl := hw.symm) | (at_lookup; refine wpList_look_none rfl (.tmp 27) (.tmp 28) rfl L.ob L.N (oldF L σ) (by kernel_rfl) HOLD.out i (by simp [Act.eval]) hwf HOF.out ?_) | (refine wpList_load_mid rfl 83 (.tmp 41) rfl L.sb (i * 64) (by kernel_rfl) ((σ.line i).map B8) (.array 8 81) HLR.out (by kernel_rfl) rfl (by rw [List.length_map, HLL.out]; kernel_rfl) ?_) | (go_at_call 45; refine (KB.out).mono ?_; rintro e W1 ⟨rfl, hob, hb1⟩; have HOB := hide hob; have HB1 := hide hb1; clear hob hb1; have ho2 : (W1.alloc (.cells #[.slice (some ⟨w.heap.size + 1, 0, none⟩) 64 64] 28)).ownsRow w.heap.size 28 1 (.slice none 0 0) q vals := ownsRow_of_block O1.out (fun g hg => (by obtain ⟨c, hc⟩ := own_type O1.out hg; exact (((Below.refl _ W1).alloc (Nat.le_refl _) _).block g (Nat.lt_of_lt_of_le (lt_of_heap hc) HB1.out.size)).trans (HB1.out.block g (lt_of_heap hc)))); have HO2 := hide ho2; clear ho2) | (at_builtin; refine wpList_append_own_at _ rfl _ _ 46 rfl w.heap.size 28 i0 (.slice none 0 0) 1 24 Try.underlying46 hi0 hz0 hz1 hz2 rfl (by decide) (.slice none 0 0) q vals rfl HO2.out ⟨W1.heap.size, 0, none⟩ 1 1 [.slice (some ⟨w.heap.size + 1, 0, none⟩) 64 64] rfl rfl (cell_one W1 _ _) (by simp [Value.oneCell']) (by unfold maxLen; omega) (by omega) (size_one W1 _ (Nat.le_trans HV.out.size HB1.out.size)) ?_; intro v1 x1 ho3 hg3 hnn hat; clear hnn hat; have HO3 := hide ho3; have HG3 := hide hg3; clear ho3 hg3))
    go_ret
    have hA := (Below.refl _ W1).alloc (Nat.le_refl _) (.cells #[.slice (some ⟨w.heap.size + 1, 0, none⟩) 64 64] 28)
    have hbb : Below w.heap.size w (W1.alloc (.cells #[.slice (some ⟨w.heap.size + 1, 0, none⟩) 64 64] 28)) := HB1.out.trans (hA.mono HB1.out.size)
    have hm := RowsB.more (cs := σ.past i) (c := σ.line i) (gb := w.heap.size + 1) (by rw [← HQ.out]; exact HO2.out) O2.out (fun q c hi => by
      obtain ⟨g, h4, h5, h6⟩ := O3.out q c hi
      exact ⟨g, h4, h5, h6.below hbb h6.lt⟩) (by have := HV.out.size; omega) (HOB.out.below hA HOB.out.lt) HG3.out (by rw [← HQ.out]; exact HO3.out)
    have hown1 : ∀ g, (Value.slice none 0 0).ownBlock = some g → w.heap.size ≤ g := fun g hg => by
      rcases O1.out.2 with ⟨e1, _⟩ | ⟨g', cap, cur, e1, e2, _⟩
      · rw [e1] at hg; cases hg
      · rw [e1] at hg; cases hg; exact e2
    refine ⟨_, rfl, hm, ?_⟩
    have h7 := hbb
    have h8 := HG3.out
    exact ⟨h8.os.trans (h7.os.trans HV.out.os), h8.tape.trans (h7.tape.trans HV.out.tape), h8.output.trans (h7.output.trans HV.out.output), Nat.le_trans HV.out.size (Nat.le_trans h7.size h8.size), fun g hg => (h8.block g (by have := h7.size; have := HV.out.size; omega) (fun e => by have := hown1 g e.symm; omega)).trans ((h7.block g (by have := HV.out.size; omega)).trans (HV.out.block g hg))⟩
  · have hof : oldF L σ (i : Int) = some (L.pb i) := by unfold oldF; rw [if_pos ⟨by omega, by simpa using hp⟩]; simp
    have HOF := hide hof
    obtain ⟨rs, hR, hex⟩ := (h.pasts i hp).runs
    have kp := ppb_any w (L.pb i) _ (L.rv i) rs hR (by rw [hex]; omega) (by have h5 := exR_len rs hR.2.2; rw [hex] at h5; omega) (fun r hr => by
      obtain ⟨q, s, e⟩ := List.append_of_mem hr
      have h1 : (exR rs).length = (σ.past i).length := by rw [hex]
      rw [e, exR_append, exR_cut r.1 s r.2] at h1
      simp at h1
      omega)
    rw [hex] at kp
    have KP := hide kp
    obtain ⟨q, hq⟩ : ∃ q, q = (σ.past i).length := ⟨_, rfl⟩
    have HQ := hide hq
    have hq1 : q ≤ 274877906944 := by omega
    have hii := hi
    clear h hok kn hp hof hll kp hR hex hq hfew hopm
    go_enter Try.func18, Try.ntmps18
    go_wp2_with (first | (go_at_call 41; refine (KN.out).mono ?_; rintro e w' ⟨rfl, hw⟩; obtain rfl := hw.symm) | (at_lookup; refine wpList_look_some rfl (.tmp 27) (.tmp 28) rfl L.ob L.N (oldF L σ) (by kernel_rfl) HOLD.out i (by simp [Act.eval]) hwf (L.pb i) HOF.out ?_) | (go_at_call 44; refine (KP.out).mono ?_; rintro e V ⟨lv, rfl, hrw, hbv⟩; obtain ⟨vals, o1, o2, o3⟩ := hrw; have HV := hide hbv; have hdv := HD.out.below hbv; have cv1 := hdv.c1; have hlr := line_range hdv HOK.out hii; have HLR := hide hlr; have KB := hide (pcb_any V (σ.line i) HLL.out); rw [← HQ.out] at o1; have O1 := hide o1; have O2 := hide o2; have O3 := hide o3; clear o1 o2 o3 hbv hdv hlr) | (refine wpList_load_mid rfl 83 (.tmp 41) rfl L.sb (i * 64) (by kernel_rfl) ((σ.line i).map B8) (.array 8 81) HLR.out (by kernel_rfl) rfl (by rw [List.length_map, HLL.out]; kernel_rfl) ?_) | (go_at_call 45; refine (KB.out).mono ?_; rintro e W1 ⟨rfl, hob, hb1⟩; have HOB := hide hob; have HB1 := hide hb1; clear hob hb1; have ho2 : (W1.alloc (.cells #[.slice (some ⟨V.heap.size + 1, 0, none⟩) 64 64] 28)).ownsRow w.heap.size 28 1 lv q vals := ownsRow_of_block O1.out (fun g hg => (by obtain ⟨c, hc⟩ := own_type O1.out hg; exact (((Below.refl _ W1).alloc (Nat.le_refl _) _).block g (Nat.lt_of_lt_of_le (lt_of_heap hc) HB1.out.size)).trans (HB1.out.block g (lt_of_heap hc)))); have HO2 := hide ho2; clear ho2) | (at_builtin; refine wpList_append_own_at _ rfl _ _ 46 rfl w.heap.size 28 i0 (.slice none 0 0) 1 24 Try.underlying46 hi0 hz0 hz1 hz2 rfl (by decide) lv q vals rfl HO2.out ⟨W1.heap.size, 0, none⟩ 1 1 [.slice (some ⟨V.heap.size + 1, 0, none⟩) 64 64] rfl rfl (cell_one W1 _ _) (by simp [Value.oneCell']) (by unfold maxLen; omega) (by omega) (size_one W1 _ (Nat.le_trans HV.out.size HB1.out.size)) ?_; intro v1 x1 ho3 hg3 hnn hat; clear hnn hat; have HO3 := hide ho3; have HG3 := hide hg3; clear ho3 hg3))
    go_ret
    have hA := (Below.refl _ W1).alloc (Nat.le_refl _) (.cells #[.slice (some ⟨V.heap.size + 1, 0, none⟩) 64 64] 28)
    have hbb : Below V.heap.size V (W1.alloc (.cells #[.slice (some ⟨V.heap.size + 1, 0, none⟩) 64 64] 28)) := HB1.out.trans (hA.mono HB1.out.size)
    have hm := RowsB.more (cs := σ.past i) (c := σ.line i) (gb := V.heap.size + 1) (by rw [← HQ.out]; exact HO2.out) O2.out (fun q c hi => by
      obtain ⟨g, h4, h5, h6⟩ := O3.out q c hi
      exact ⟨g, h4, h5, h6.below hbb h6.lt⟩) (by have := HV.out.size; omega) (HOB.out.below hA HOB.out.lt) HG3.out (by rw [← HQ.out]; exact HO3.out)
    have hown1 : ∀ g, lv.ownBlock = some g → w.heap.size ≤ g := fun g hg => by
      rcases O1.out.2 with ⟨e1, _⟩ | ⟨g', cap, cur, e1, e2, _⟩
      · rw [e1] at hg; cases hg
      · rw [e1] at hg; cases hg; exact e2
    refine ⟨_, rfl, hm, ?_⟩
    have h7 := hbb
    have h8 := HG3.out
    exact ⟨h8.os.trans (h7.os.trans HV.out.os), h8.tape.trans (h7.tape.trans HV.out.tape), h8.output.trans (h7.output.trans HV.out.output), Nat.le_trans HV.out.size (Nat.le_trans h7.size h8.size), fun g hg => (h8.block g (by have := h7.size; have := HV.out.size; omega) (fun e => by have := hown1 g e.symm; omega)).trans ((h7.block g (by have := HV.out.size; omega)).trans (HV.out.block g hg))⟩
end
end Go.Proofs.Ytkdonacnnienaaa
