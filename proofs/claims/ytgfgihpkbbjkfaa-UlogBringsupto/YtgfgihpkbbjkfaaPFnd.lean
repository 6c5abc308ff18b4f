/- Package pmem: the run that has a content. -/
import Derived.Test.YtgfgihpkbbjkfaaPWrB
namespace Go.Proofs.Ytgfgihpkbbjkfaa
open Go.RowKit
set_option linter.unusedVariables false

/-- A past, by its runs. -/
def PastR (w : World) (pb : Nat) (v : Value) (n : Nat) (rs : List (List Nat × Nat)) : Prop :=
  w.heap[pb]? = some (.cells #[v, .int .i64 (n : Int)] 121 (0, 0)) ∧ w.ownsRow 0 145 65 v rs.length (rs.flatMap runC) ∧ ∀ r ∈ rs, r.1.length = 64 ∧ 1 ≤ r.2
theorem PastAt.runs {w : World} {pb : Nat} {v : Value} {cs : List (List Nat)} (h : PastAt w pb v cs) : ∃ rs, PastR w pb v cs.length rs ∧ exR rs = cs := by
  obtain ⟨hb, rs, ho, hcs, hr⟩ := h
  exact ⟨rs, ⟨hb, ho, hr⟩, hcs⟩
theorem PastR.past {w : World} {pb : Nat} {v : Value} {n : Nat} {rs : List (List Nat × Nat)} (h : PastR w pb v n rs) (hn : n = (exR rs).length) : PastAt w pb v (exR rs) := ⟨hn ▸ h.1, rs, h.2.1, rfl, h.2.2⟩
theorem PastR.below {w w' : World} {pb : Nat} {v : Value} {n : Nat} {rs : List (List Nat × Nat)} (h : PastR w pb v n rs) (hb : Below w.heap.size w w') : PastR w' pb v n rs :=
  ⟨(hb.block pb (lt_of_heap h.1)).trans h.1, ownsRow_of_block h.2.1 (fun g hg => by obtain ⟨c, hc⟩ := own_type h.2.1 hg; exact hb.block g (lt_of_heap hc)), h.2.2⟩
def findR : List (List Nat × Nat) → Nat → Nat × Nat
  | [], _ => (0, 0)
  | r :: rs, k => if k < r.2 then (0, k) else ((findR rs (k - r.2)).1 + 1, (findR rs (k - r.2)).2)
/-- What stands behind the first contents. -/
theorem find_drop : ∀ (rs : List (List Nat × Nat)) (k : Nat), k ≤ (exR rs).length → (findR rs k).1 ≤ rs.length ∧ ((rs.drop (findR rs k).1 = [] ∧ (findR rs k).2 = 0 ∧ (exR rs).drop k = []) ∨ ∃ r t, rs.drop (findR rs k).1 = r :: t ∧ (findR rs k).2 < r.2 ∧ (exR rs).drop k = exR ((r.1, r.2 - (findR rs k).2) :: t))
  | [], k, h => by
    simp [exR] at h
    subst h
    exact ⟨Nat.le_refl _, .inl ⟨rfl, rfl, rfl⟩⟩
  | r :: rs, k, h => by
    have e : exR (r :: rs) = List.replicate r.2 r.1 ++ exR rs := by simp [exR]
    rw [e] at h ⊢
    rw [List.length_append, List.length_replicate] at h
    unfold findR
    by_cases hk : k < r.2
    · rw [if_pos hk]
      refine ⟨Nat.zero_le _, .inr ⟨r, rs, rfl, hk, ?_⟩⟩
      rw [List.drop_append_of_le_length (by rw [List.length_replicate]; omega), List.drop_replicate]
      simp [exR]
    · rw [if_neg hk]
      obtain ⟨h1, h2⟩ := find_drop rs (k - r.2) (by omega)
      refine ⟨by simp; omega, ?_⟩
      have e2 : (List.replicate r.2 r.1 ++ exR rs).drop k = (exR rs).drop (k - r.2) := by
        rw [List.drop_append, List.drop_of_length_le (by rw [List.length_replicate]; omega), List.nil_append, List.length_replicate]
      rw [e2]
      simpa using h2
theorem find_at (rs : List (List Nat × Nat)) (k : Nat) (h : k < (exR rs).length) : ∃ r, rs[(findR rs k).1]? = some r ∧ (exR rs)[k]? = some r.1 := by
  obtain ⟨h1, h2⟩ := find_drop rs k (by omega)
  rcases h2 with ⟨_, _, h3⟩ | ⟨r, t, h3, h4, h5⟩
  · have := congrArg List.length h3
    simp at this
    omega
  · refine ⟨r, ?_, ?_⟩
    · have := congrArg (fun l => l[0]?) h3
      simpa using this
    · have h6 : ((exR rs).drop k)[0]? = some r.1 := by
        rw [h5]
        simp only [exR, List.flatMap_cons]
        rw [List.getElem?_append_left (by rw [List.length_replicate]; omega), List.getElem?_replicate, if_pos (by omega)]
      simpa using h6
theorem row_range {w : World} {g m cap : Nat} {rs : List (List Nat × Nat)} (h : w.ownsRow 0 145 65 (.slice (some ⟨g, 0, none⟩) m cap) rs.length (rs.flatMap runC)) (hr : ∀ r ∈ rs, r.1.length = 64 ∧ 1 ≤ r.2) {j : Nat} {r : List Nat × Nat} (hj : rs[j]? = some r) : w.rangeAt g (j * 65) (runC r) := by
  rcases h.2 with ⟨h0, _⟩ | ⟨g', cap', cur, hv, _, hg, _, _, _, htk⟩
  · cases h0
  · cases hv
    have hlt : j < rs.length := (List.getElem?_eq_some_iff.1 hj).1
    have hd : rs = rs.take j ++ r :: rs.drop (j + 1) := by
      obtain ⟨h', e⟩ := List.getElem?_eq_some_iff.1 hj
      have h2 := List.take_append_drop j rs
      rw [List.drop_eq_getElem_cons h', e] at h2
      exact h2.symm
    have hl : ((rs.take j).flatMap runC).length = j * 65 := by
      rw [runs_len _ (fun x hx => hr x (List.mem_of_mem_take hx)), List.length_take, Nat.min_eq_left (by omega)]
    intro i u hu
    have h1 : (rs.flatMap runC)[j * 65 + i]? = some u := by
      rw [hd, List.flatMap_append, List.getElem?_append_right (by omega), hl, List.flatMap_cons, Nat.add_sub_cancel_left, List.getElem?_append_left (List.getElem?_eq_some_iff.1 hu).1]
      exact hu
    rw [← htk, List.getElem?_take] at h1
    split at h1
    · rw [cell8 hg]
      simpa using h1
    · cases h1
theorem int_congrP {k : IntKind} {a b : Int} (h : a = b) : Value.int k a = Value.int k b := by rw [h]
theorem zero_run : ∃ Z : List Value, Z.length = 65 ∧ ∀ w : World, (zeroValue 145).run Try.prog w = .ok (.agg Z.toArray) w := by
  obtain ⟨it, Z, hi, hz, hs, _⟩ := run_zero
  exact ⟨Z.toList, by simp [hs], fun w => by simp [zeroValue, typeInfo, hi, hz]⟩
theorem struct_run : ∃ d, Try.prog.underlying 145 = some d ∧ d.isRow = true := by
  have h : (Try.prog.underlying 145).map (fun d => d.isRow) = some true := by kernel_rfl
  cases hu : Try.prog.underlying 145 with
  | none => rw [hu] at h; cases h
  | some d => rw [hu] at h; exact ⟨d, rfl, by simpa using h⟩
set_option maxRecDepth 100000 in
set_option maxHeartbeats 1000000 in
theorem pfind_any (pb n k : Nat) (v : Value) (rs : List (List Nat × Nat)) (w : World) (h : PastR w pb v n rs) (hk : k ≤ 1400000000000) (hrl : rs.length ≤ 1400000000000) (ht : ∀ r ∈ rs, r.2 ≤ 1400000000000) :
    Calls Try.prog 79 #[.pointer (some ⟨pb, 0, none⟩), .int .i64 (k : Int)] w fun e w' => e = .returned (.tuple #[.int .i64 ((findR rs k).1 : Int), .int .i64 ((findR rs k).2 : Int)]) ∧ Below w.heap.size w w' := by
  obtain ⟨ap, ac, hv⟩ := own_slice h.2.1
  obtain ⟨Z, hzl, hz⟩ := zero_run
  obtain ⟨d, hd, hdr⟩ := struct_run
  have c0 : w.cell? ⟨pb, 0, none⟩ = some v := cell8 h.1 0
  rw [hv] at c0
  have HH := hide h
  have HV := hide hv
  have HZ := hide hz
  have HZL := hide hzl
  have HD := hide hd
  have HDR := hide hdr
  have HT := hide ht
  clear h hv hz hzl hd hdr ht
  generalize hm : rs.length = m at *
  have HM := hide hm
  clear hm
  go_enter Try.func79, Try.ntmps79
  go_wp2
  go_loopw [1, 13] (fun kv iv wr => ∃ j k' : Nat, kv = .int .i64 (k' : Int) ∧ iv = .int .i64 (j : Int) ∧ j ≤ m ∧ k' ≤ k ∧ findR rs k = ((findR (rs.drop j) k').1 + j, (findR (rs.drop j) k').2) ∧ Below w.heap.size w wr) (fun kv iv _ => (m - (intOf iv).toNat))
  case atStart => exact ⟨0, k, rfl, rfl, Nat.zero_le _, Nat.le_refl _, by simp, Below.refl _ _⟩
  case round =>
    obtain ⟨j, k', rfl, rfl, hj, hkk, hf, hB⟩ := hrel
    have hw := HH.out.below hB
    have cw : wr.cell? ⟨pb, 0, none⟩ = some (.slice ap m ac) := by rw [← HV.out]; exact cell8 hw.1 0
    by_cases hlt : j < m
    · obtain ⟨r, hr⟩ : ∃ r, rs[j]? = some r := ⟨_, List.getElem?_eq_getElem (by rw [HM.out]; exact hlt)⟩
      obtain ⟨g, rfl⟩ : ∃ g, ap = some ⟨g, 0, none⟩ := by
        rcases HH.out.2.1.2 with ⟨h1, h2⟩ | ⟨g, cap, cur, h1, _⟩
        · rw [HM.out] at h2; omega
        · rw [HV.out] at h1; cases h1; exact ⟨g, rfl⟩
      have hown := hw.2.1
      rw [HV.out] at hown
      have hrg := row_range hown hw.2.2 hr
      have hrm : r ∈ rs := List.mem_of_getElem? hr
      have hr64 := (hw.2.2 r hrm).1
      have hrl := runC_len r hr64
      have hrt := HT.out r hrm
      have l0 := fun X => index_run g j m ac hlt X
      have hst : findR (rs.drop j) k' = if k' < r.2 then (0, k') else ((findR (rs.drop (j + 1)) (k' - r.2)).1 + 1, (findR (rs.drop (j + 1)) (k' - r.2)).2) := by
        obtain ⟨h', e⟩ := List.getElem?_eq_some_iff.1 hr
        rw [List.drop_eq_getElem_cons h', e]
        rfl
      have hsz : (Try.prog.info? 145).map (·.size) = some (runC r).length := by rw [hrl]; kernel_rfl
      have hsz2 : (Try.prog.info? 145).map (·.size) = some (runC r).toArray.size := by rw [List.size_toArray]; exact hsz
      have hth : (wr.alloc (.cells Z.toArray 145)).there wr.heap.size 0 (runC r).toArray.size := there_row (heapNew wr _) 0 _ (by rw [List.size_toArray, hrl, HZL.out]; omega)
      obtain ⟨n1, n2, n3⟩ := new_row (W := wr) (cur := Z) (vs := runC r) (t := 145) (hrl.trans HZL.out.symm)
      have ct : ((wr.alloc (.cells Z.toArray 145)).setCells wr.heap.size 0 (runC r)).cell? ⟨wr.heap.size, 64, none⟩ = some (.int .i64 (r.2 : Int)) := by
        rw [cell8 n1]
        simp [runC, hr64]
      have hB2 : Below w.heap.size w ((wr.alloc (.cells Z.toArray 145)).setCells wr.heap.size 0 (runC r)) := hB.trans (n2.mono hB.size)
      have HS := hide (all_oneCell_toArray (runC_cell r))
      have HRG := hide hrg
      have HSZ := hide hsz
      have HSZ2 := hide hsz2
      have HTH := hide hth
      have HB2 := hide hB2
      have HF := hide hf
      have HST := hide hst
      have hkI : (k' : Int) ≤ 1400000000000 := by omega
      have htI : (r.2 : Int) ≤ 1400000000000 := by omega
      have jI : (j : Int) < (m : Int) := by omega
      generalize r.2 = t at *
      clear hown hrg hr64 hrl hst hsz hsz2 hth n1 n2 n3 hB2 hf hw hr hrm hB hrt
      by_cases hkt : k' < t
      · have hkt' : (k' : Int) < (t : Int) := by omega
        go_wp2_with (first | (refine wpList_load_mid rfl 145 (.tmp 16) rfl g (j * 65) (by kernel_rfl) (runC r) d HRG.out HD.out HDR.out HSZ.out ?_) | (refine wpList_alloc_row rfl 145 rfl Z (HZ.out _) ?_) | (refine wpList_store_mid rfl 145 (.tmp 7) (.tmp 17) rfl wr.heap.size 0 (runC r).toArray (by kernel_rfl) (by kernel_rfl) HTH.out HSZ2.out HS.out ?_))
        go_ret2
        have h1 := HF.out
        rw [HST.out, if_pos hkt] at h1
        rw [h1]
        exact ⟨by simp, HB2.out⟩
      · have hkt' : ¬ (k' : Int) < (t : Int) := by omega
        go_wp2_with (first | (refine wpList_load_mid rfl 145 (.tmp 16) rfl g (j * 65) (by kernel_rfl) (runC r) d HRG.out HD.out HDR.out HSZ.out ?_) | (refine wpList_alloc_row rfl 145 rfl Z (HZ.out _) ?_) | (refine wpList_store_mid rfl 145 (.tmp 7) (.tmp 17) rfl wr.heap.size 0 (runC r).toArray (by kernel_rfl) (by kernel_rfl) HTH.out HSZ2.out HS.out ?_))
        go_roundw
        case rel =>
          have h1 := HF.out
          rw [HST.out, if_neg hkt] at h1
          exact ⟨j + 1, k' - t, int_congrP (by omega), int_congrP (by omega), by omega, by omega, by rw [h1]; simp; omega, HB2.out⟩
        case measure => simp [intOf]; omega
    · have hjm : j = m := by omega
      subst hjm
      have hf2 : findR rs k = (j, 0) := by rw [hf, List.drop_of_length_le (by rw [HM.out]; exact Nat.le_refl _)]; simp [findR]
      have HF2 := hide hf2
      have HB := hide hB
      clear hf hf2 hw hB
      go_wp2
      go_ret2
      rw [HF2.out]
      exact ⟨by simp, HB.out⟩
end Go.Proofs.Ytgfgihpkbbjkfaa
