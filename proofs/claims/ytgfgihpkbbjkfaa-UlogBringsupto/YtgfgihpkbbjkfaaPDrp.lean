/- Package pmem: the content of a number; contents that are dropped. -/
import Derived.Test.YtgfgihpkbbjkfaaPFnd
import Derived.Laws.ResultCell
namespace Go.Proofs.Ytgfgihpkbbjkfaa
open Go.RowKit
set_option linter.unusedVariables false

theorem belowSC {B b : Nat} {a w : World} (hb : B ≤ b) (vs : List Value) (o : Nat) (h : Below B a w) : Below B a (w.setCells b o vs) := by
  obtain ⟨h1, h2, h3⟩ := setCells_world b vs o w
  exact ⟨h1.trans h.os, h2.trans h.tape, h3.trans h.output, by rw [setCells_size]; exact h.size, fun k hk => (heap_setCells_ne _ _ _ _ k (by omega)).trans (h.block k hk)⟩
set_option maxRecDepth 100000 in
set_option maxHeartbeats 1000000 in
theorem pat_any (pb n k : Nat) (v : Value) (rs : List (List Nat × Nat)) (c : List Nat) (w : World) (h : PastR w pb v n rs) (hk : k ≤ 1400000000000) (hrl : rs.length ≤ 1400000000000) (ht : ∀ r ∈ rs, r.2 ≤ 1400000000000) (hc : (exR rs)[k]? = some c) :
    Calls Try.prog 82 #[.pointer (some ⟨pb, 0, none⟩), .int .i64 (k : Int)] w fun e w' => e = .returned (.agg (c.map B8).toArray) ∧ Below w.heap.size w w' := by
  obtain ⟨Z, hzl, hz⟩ := zero_content
  have hlt : k < (exR rs).length := (List.getElem?_eq_some_iff.1 hc).1
  obtain ⟨r, hr, hrc⟩ := find_at rs k hlt
  rw [hc] at hrc
  cases hrc
  have hA : Below w.heap.size w (w.alloc (.cells Z.toArray 73)) := (Below.refl _ w).alloc (Nat.le_refl _) _
  have h1 := h.below hA
  have kf := pfind_any pb n k v rs _ h1 hk hrl ht
  have hil : (findR rs k).1 < rs.length := (List.getElem?_eq_some_iff.1 hr).1
  generalize (findR rs k).1 = i at *
  generalize (findR rs k).2 = wi at *
  obtain ⟨g, cap, hv⟩ : ∃ g cap, v = .slice (some ⟨g, 0, none⟩) rs.length cap := by
    rcases h.2.1.2 with ⟨e1, e2⟩ | ⟨g, cap, cur, e1, _⟩
    · omega
    · exact ⟨g, cap, e1⟩
  have hr64 := (h.2.2 r (List.mem_of_getElem? hr)).1
  have KF := hide kf
  have H1 := hide h1
  have HV := hide hv
  have HR := hide hr
  have HZ := hide hz
  have HZL := hide hzl
  have HA := hide hA
  have l0 := fun X => index_run g i rs.length cap hil X
  have hsz : (Try.prog.info? 73).map (·.size) = some (r.1.map B8).toArray.size := by rw [List.size_toArray, List.length_map, hr64]; kernel_rfl
  have HSZ := hide hsz
  have HS := hide (all_oneCell_toArray (B8_cell r.1))
  have H64 := hide hr64
  clear h h1 kf hv hr hz hzl hc hlt hA ht hsz hr64
  generalize rs.length = m at *
  go_enter Try.func82, Try.ntmps82
  go_wp2_with (first | (refine wpList_alloc_row rfl 73 rfl Z (HZ.out _) ?_) | (go_at_call 79; refine (KF.out).mono ?_; rintro e W ⟨rfl, hB⟩; have hw := H1.out.below hB; have cw : W.cell? ⟨pb, 0, none⟩ = some (.slice (some ⟨g, 0, none⟩) m cap) := (by rw [← HV.out]; exact cell8 hw.1 0); have hown := hw.2.1; rw [HV.out] at hown; have hrg := row_range hown hw.2.2 HR.out; have hrd : W.rangeAt g (i * 65) (r.1.map B8) := (fun j u hu => hrg j u (by simp only [runC]; rw [List.getElem?_append_left (List.getElem?_eq_some_iff.1 hu).1]; exact hu)); have hbx := (hB.block w.heap.size (lt_of_heap (heapNew w _))).trans (heapNew w (.cells Z.toArray 73)); have hth : W.there w.heap.size 0 (r.1.map B8).toArray.size := there_row hbx 0 _ (by rw [List.size_toArray, List.length_map, H64.out, HZL.out]; omega); have HRD := hide hrd; have HTH := hide hth; have HB := hide hB; have HBX := hide hbx; clear hw hown hrg hrd hbx hth hB) | (refine wpList_load_mid rfl 73 (.tmp 19) rfl g (i * 65) (by kernel_rfl) (r.1.map B8) (.array 8 71) HRD.out (by kernel_rfl) rfl (by rw [List.length_map, H64.out]; kernel_rfl) ?_) | (refine wpList_store_mid rfl 73 (.tmp 4) (.tmp 20) rfl w.heap.size 0 (r.1.map B8).toArray (by kernel_rfl) (by kernel_rfl) HTH.out HSZ.out HS.out ?_))
  go_frame
  have hh : (W.setCells w.heap.size 0 (r.1.map B8)).heap[w.heap.size]? = some (.cells (r.1.map B8).toArray 73 (0, 0)) := by
    rw [heap_setCells w.heap.size _ (r.1.map B8) 0 W Z HBX.out (by rw [List.length_map, H64.out, HZL.out]; omega)]
    simp [splice, H64.out, HZL.out]
  refine bodyPost_ret (results_cell_row rfl _ _ w.heap.size 73 (r.1.map B8).toArray (0, 0) (.array 8 71) rfl hh (by kernel_rfl) rfl HSZ.out) rfl ?_
  exact ⟨rfl, belowSC (Nat.le_refl _) _ _ (bseq HA.out HB.out)⟩
set_option maxRecDepth 100000 in
/-- A list of runs of its own. -/
theorem pclone_any (ad : Addr) (m cp : Nat) (news : List Value) (w : World) (hl : news.length = m * 65) (hn : ∀ j u, news[j]? = some u → w.cell? (ad.add j) = some u) (h1 : ∀ u ∈ news, u.oneCell' = true) (hm : m ≤ 1400000000000) :
    Calls Try.prog 80 #[.slice (some ad) m cp] w fun e w' => ∃ v', e = .returned v' ∧ w'.ownsRow 0 145 65 v' m news ∧ (∃ g, v'.ownBlock = some g ∧ w.heap.size ≤ g) ∧ Below w.heap.size w w' := by
  obtain ⟨it, Z, hit, hz, hzs', h65, h72⟩ := run_zero
  have hzs : (Value.agg Z).cells.size = 65 := hzs'
  have hA : Below w.heap.size w (w.alloc (.cells #[] 145)) := (Below.refl _ w).alloc (Nat.le_refl _) _
  have ho : (w.alloc (.cells #[] 145)).ownsRow 0 145 65 (.slice (some ⟨w.heap.size, 0, none⟩) 0 0) 0 [] := ⟨rfl, .inr ⟨w.heap.size, 0, #[], rfl, Nat.zero_le _, heapNew w _, Nat.le_refl _, Nat.zero_le _, rfl, rfl⟩⟩
  have hn' : ∀ j u, news[j]? = some u → (w.alloc (.cells #[] 145)).cell? (ad.add j) = some u := fun j u hu => (hA.cell (World.block_lt_of_cell? _ _ (hn j u hu))).trans (hn j u hu)
  have hbs : (Instr.buildSlice 119 0 #[]).run Try.prog w = .ok (.slice (some ⟨w.heap.size, 0, none⟩) 0 0) (w.alloc (.cells #[] 145)) := by
    simp [Instr.buildSlice, run_underlying Try.underlying119, sizeOf, typeInfo, hit, Instr.fill, newRow]
    rw [show Array.map (fun (_ : Nat) => (default : Value)) (Array.range 0) = #[] from Array.eq_empty_of_size_eq_zero (by simp)]
  have hq : (binOp .eql 119 (.slice (some ad) m cp) (.slice none 0 0)).run Try.prog w = .ok (.bool false) w := by
    have h : ∀ d : Nat, (Op.equalIn (d + 1) 119 (.slice (some ad) m cp) (.slice none 0 0)).run Try.prog w = .ok false w := fun d => by
      simp [Op.equalIn, run_underlying Try.underlying119]
    simp only [binOp]
    simp [Op.equal, Op.maxDepth, h 9999]
  have HA := hide hA
  have HO := hide ho
  have HN := hide hn'
  clear hA ho hn hn' hzs'
  go_enter Try.func80, Try.ntmps80
  go_wp2_with (at_builtin; refine wpList_append_own_at _ rfl _ _ 119 rfl 0 145 it (.agg Z) 65 72 Try.underlying119 hit hz h65 h72 hzs (by decide) (.slice (some ⟨w.heap.size, 0, none⟩) 0 0) 0 [] rfl HO.out ad m cp news rfl hl HN.out h1 (by unfold maxLen; omega) (by omega) (Nat.zero_le _) ?_; intro v1 x1 ho2 hg2 hnn hat; clear hnn)
  go_ret
  rw [Nat.zero_add, List.nil_append] at ho2
  refine ⟨v1, rfl, ho2, hat.elim (fun e => ⟨_, e, Nat.le_refl _⟩) (fun e => ⟨_, e, by simp⟩), ?_⟩
  exact ⟨hg2.os.trans HA.out.os, hg2.tape.trans HA.out.tape, hg2.output.trans HA.out.output, Nat.le_trans HA.out.size hg2.size, fun k hk => (hg2.block k (Nat.lt_of_lt_of_le hk HA.out.size) (fun e => by simp [Value.ownBlock] at e; omega)).trans (HA.out.block k hk)⟩
end Go.Proofs.Ytgfgihpkbbjkfaa
