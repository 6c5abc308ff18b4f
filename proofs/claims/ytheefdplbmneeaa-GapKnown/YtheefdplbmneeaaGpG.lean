/- A gap as the bytes of a block. -/
import Derived.Test.YtheefdplbmneeaaGpB
import Derived.Test.YtheefdplbmneeaaGpF
import Derived.Deep.MidRow
import Derived.Deep.WholeRow
import Derived.Deep.RegionHeld3
import Derived.Deep.Cut
import Derived.Maps.RangeWalk
import Derived.Great.FillDense
import Derived.Great.BuildSlice
namespace Go.Proofs.Ytheefdplbmneeaa
open Go.RowKit
set_option linter.unusedVariables false
set_option linter.unusedSimpArgs false

/-- The bytes of a gap's block, as it stands. -/
def blkC (f to : Nat) (d : List Nat) : List Nat := (leB 2 f ++ leB 2 to) ++ d
theorem blkC_len {f to : Nat} {d : List Nat} (h : d.length = 252) : (blkC f to d).length = 256 := by simp [blkC, leB_length, h]
theorem blkC_lt {f to : Nat} {d : List Nat} (h : ∀ x ∈ d, x < 256) : ∀ x ∈ blkC f to d, x < 256 := by
  intro x hx
  unfold blkC at hx
  rcases List.mem_append.1 hx with hx | hx
  · rcases List.mem_append.1 hx with hx | hx
    · exact leB_lt _ _ x hx
    · exact leB_lt _ _ x hx
  · exact h x hx
theorem gp_range {w : World} {b : Nat} {c : Array Value} {t : TypeId} {fr : Nat × Nat} (h : w.heap[b]? = some (.cells c t fr)) (cs : List Value) (hc : c.toList.take cs.length = cs) : w.rangeAt b 0 cs := by
  intro j v hj
  have e : (c.toList.take cs.length)[j]? = some v := by rw [hc]; exact hj
  rw [List.getElem?_take] at e
  split at e
  · simp only [World.cell?, h, Nat.zero_add]
    simpa using e
  · cases e
theorem gp_there {w : World} {b : Nat} {cur : List Value} {t : TypeId} (h : w.heap[b]? = some (.cells cur.toArray t (0, 0))) (n : Nat) (hl : n ≤ cur.length) : w.there b 0 n := fun j hj => by
  refine ⟨?_, by simp [World.frozen?, h]⟩
  simp [World.cell?, h]
  omega
theorem gp_setCells_size (b : Nat) : ∀ (vs : List Value) (o : Nat) (w : World), (w.setCells b o vs).heap.size = w.heap.size
  | [], o, w => rfl
  | v :: vs, o, w => by rw [World.setCells, gp_setCells_size b vs]; simp [World.setCell]
theorem gp_setCells_ne (b : Nat) : ∀ (vs : List Value) (o : Nat) (w : World) (k : Nat), k ≠ b → (w.setCells b o vs).heap[k]? = w.heap[k]?
  | [], o, w, k, h => rfl
  | v :: vs, o, w, k, h => by
    rw [World.setCells, gp_setCells_ne b vs _ _ k h]
    simp only [World.setCell, Array.getElem?_modify]
    rw [if_neg (fun e => h e.symm)]
theorem gp_setCells_world (b : Nat) : ∀ (vs : List Value) (o : Nat) (w : World), (w.setCells b o vs).os = w.os ∧ (w.setCells b o vs).tape = w.tape ∧ (w.setCells b o vs).output = w.output
  | [], o, w => ⟨rfl, rfl, rfl⟩
  | v :: vs, o, w => gp_setCells_world b vs (o + 1) (w.setCell ⟨b, o, none⟩ v)
theorem gp_setCells (b : Nat) (t : TypeId) : ∀ (vs : List Value) (o : Nat) (w : World) (cur : List Value), w.heap[b]? = some (.cells cur.toArray t (0, 0)) → o + vs.length ≤ cur.length → (w.setCells b o vs).heap[b]? = some (.cells (splice cur o vs).toArray t (0, 0))
  | [], o, w, cur, h, hl => by simpa [World.setCells, splice] using h
  | v :: vs, o, w, cur, h, hl => by
    rw [List.length_cons] at hl
    have h1 : (w.setCell ⟨b, o, none⟩ v).heap[b]? = some (.cells (cur.set o v).toArray t (0, 0)) := by
      simp only [World.setCell, Array.getElem?_modify, h]; simp
    rw [World.setCells, gp_setCells b t vs (o + 1) _ _ h1 (by rw [List.length_set]; omega)]
    congr 3
    unfold splice
    rw [List.take_set, List.drop_set_of_lt (by omega), List.length_cons]
    have e1 : (cur.take (o + 1)).set o v = cur.take o ++ [v] := by
      rw [List.take_succ_eq_append_getElem (show o < cur.length by omega), List.set_append_right _ _ (by simp; omega)]
      simp [Nat.min_eq_left (show o ≤ cur.length by omega)]
    rw [e1, List.append_assoc, show o + 1 + vs.length = o + (vs.length + 1) by omega]
    rfl
/-- A row that lies there, stored over whole. -/
theorem gp_over {W : World} {b : Nat} {cur vs : List Value} {t : TypeId} (h : W.heap[b]? = some (.cells cur.toArray t (0, 0))) (hl : vs.length = cur.length) : (W.setCells b 0 vs).heap[b]? = some (.cells vs.toArray t (0, 0)) := by
  rw [gp_setCells b t vs 0 _ cur h (by omega)]
  simp [splice, hl]
theorem Ke.setCells {X : Nat → Prop} (w : World) (b o : Nat) (vs : List Value) (hx : X b) : Ke X w (w.setCells b o vs) := by
  obtain ⟨h1, h2, h3⟩ := gp_setCells_world b vs o w
  exact ⟨h1, h2, h3, by rw [gp_setCells_size]; exact Nat.le_refl _, fun k hk hn => gp_setCells_ne b vs o w k (fun e => hn (e ▸ hx))⟩
theorem zero_image : ∃ Z : List Value, Z.length = 256 ∧ ∀ w : World, (zeroValue 69).run Try.prog w = .ok (.agg Z.toArray) w := by
  have h : (Try.prog.info? 69).map (fun i => (i.zero.map (fun z => match z with | .agg Z => Z.size | _ => 0))) = some (some 256) := by kernel_rfl
  cases hi : Try.prog.info? 69 with
  | none => rw [hi] at h; cases h
  | some it =>
    rw [hi] at h
    simp only [Option.map_some, Option.some.injEq] at h
    cases hz : it.zero with
    | none => rw [hz] at h; cases h
    | some z =>
      rw [hz] at h
      cases z <;> simp at h
      rename_i Z
      exact ⟨Z.toList, by simp [h], fun w => by simp [zeroValue, typeInfo, hi, hz]⟩
theorem put_one (f : Nat) (w : World) (hf : f < 65536) : Calls Try.prog 46 #[.slice none 0 0, .int .u16 (f : Int)] w fun e w' => e = .returned (.slice (some ⟨w.heap.size, 0, none⟩) 2 2) ∧ Below w.heap.size w w' ∧ OwnB w' w.heap.size (leB 2 f) :=
  put16 none 0 f [] w (.inl rfl) (by simp) hf
theorem put_two (f to : Nat) (w : World) (G : Nat) (hG : OwnB w G (leB 2 f)) (ht : to < 65536) : Calls Try.prog 46 #[.slice (some ⟨G, 0, none⟩) 2 2, .int .u16 (to : Int)] w fun e w' => e = .returned (.slice (some ⟨w.heap.size, 0, none⟩) 4 4) ∧ Below w.heap.size w w' ∧ OwnB w' w.heap.size (leB 2 f ++ leB 2 to) := by
  have k := put16 (some ⟨G, 0, none⟩) 2 to (leB 2 f) w (hG.sl (leB_lt 2 f)) (by rw [leB_length]; omega) ht
  rw [leB_length] at k
  exact k
theorem arr_of (W : World) (G n cap : Nat) (hn : 256 ≤ n) : (Instr.arrayAt 69 (.slice (some ⟨G, 0, none⟩) n cap)).run Try.prog W = .ok (.pointer (some ⟨G, 0, none⟩)) W := by
  have hu : Try.prog.underlying 69 = some (.array 256 5) := by kernel_rfl
  have : ¬ n < 256 := by omega
  simp [Instr.arrayAt, Sem.run_bind, run_underlying hu, this]
section
variable {w : World} {g f to : Nat} {d : List Nat}
set_option maxRecDepth 100000 in
set_option maxHeartbeats 2000000 in
theorem laid_any (h : GapC w g f to d) (hd : d.length = 252) (hb : ∀ x ∈ d, x < 256) (hf : f ≤ 252) (ht : to ≤ 252) : Calls Try.prog 41 #[.pointer (some ⟨g, 0, none⟩)] w fun e w' => e = .returned (.agg ((blkC f to d).map B8).toArray) ∧ Below w.heap.size w w' := by
  obtain ⟨Z, hzl, hz⟩ := zero_image
  have kp1 := fun W => put_one f W (by omega)
  have kp2 := fun W G hG => put_two f to W G hG (by omega)
  have hgl := h.lt
  have wf : IntKind.u16.wrap (f : Int) = (f : Int) := by rw [IntKind.wrap_u16]; omega
  have wt : IntKind.u16.wrap (to : Int) = (to : Int) := by rw [IntKind.wrap_u16]; omega
  have cf : ∀ X, Below w.heap.size w X → X.cell? ⟨g, 1, none⟩ = some (.int .i64 (f : Int)) ∧ X.cell? ⟨g, 2, none⟩ = some (.int .i64 (to : Int)) := fun X hX => ⟨(h.below hX hgl).c1, (h.below hX hgl).c2⟩
  have hw0 : Below w.heap.size w (w.alloc (.cells Z.toArray 69)) := (Below.refl _ w).alloc (Nat.le_refl _) _
  have CF := hide cf
  have S0 := hide (cf _ hw0.drew)
  have HW0 := hide hw0
  have HBS := hide hw0.size
  have HH := hide h
  have HZ := hide hz
  have HZL := hide hzl
  have KP1 := hide kp1
  have KP2 := hide kp2
  have WF := hide wf
  have WT := hide wt
  have HD := hide hd
  have HBY := hide hb
  clear h hz hzl kp1 kp2 wf wt cf hw0 hd hb
  go_enter Try.func41, Try.ntmps41
  have hz := HZ.out
  go_upto_region 1 with (fail)
  clear hz
  have n0 := heap_alloc_new w (.cells Z.toArray 69)
  have N0 := hide n0
  clear n0
  generalize w.alloc (.cells Z.toArray 69) = W0 at *
  generalize hBe : w.heap.size = B at *
  have HBE := hide hBe
  clear hBe
  refine wp_region_held_drew (S := fun X => X.cell? ⟨g, 1, none⟩ = some (.int .i64 (f : Int)) ∧ X.cell? ⟨g, 2, none⟩ = some (.int .i64 (to : Int))) (by kernel_rfl) S0.out (fun hS => ?_)
  refine wpAnyH_take (i := 0) (v := (.pointer (some ⟨g, 0, none⟩))) rfl (by kernel_rfl) (by kernel_rfl) (by kernel_rfl) (fun _ _ _ h => h) (Or.inl ⟨by kernel_rfl, fun w' hw => by (go_simp)⟩) hS ?_
  refine wpAnyH_take (i := 1) (v := (.pointer (some ⟨g, 0, none⟩))) rfl (by kernel_rfl) (by kernel_rfl) (by kernel_rfl) (fun _ _ _ h => h) (Or.inl ⟨by kernel_rfl, fun w' hw => by (go_simp)⟩) hS ?_
  refine wpAnyH_take (i := 2) (v := (.pointer (some ⟨g, 1, none⟩))) rfl (by kernel_rfl) (by kernel_rfl) (by kernel_rfl) (fun _ _ _ h => h) (Or.inl ⟨by kernel_rfl, fun w' hw => by (go_simp)⟩) hS ?_
  refine wpAnyH_take (i := 3) (v := (.int .i64 (f : Int))) rfl (by kernel_rfl) (by kernel_rfl) (by kernel_rfl) (fun _ _ _ h => h) (Or.inl ⟨by kernel_rfl, fun w' hw => by (go_simp)⟩) hS ?_
  refine wpAnyH_take (i := 4) (v := (.int .u16 (f : Int))) rfl (by kernel_rfl) (by kernel_rfl) (by kernel_rfl) (fun _ _ _ h => h) (Or.inl ⟨by kernel_rfl, fun w' hw => by (have wf := WF.out; go_simp)⟩) hS ?_
  refine wpAnyH_take (i := 6) (v := (.pointer (some ⟨g, 0, none⟩))) rfl (by kernel_rfl) (by kernel_rfl) (by kernel_rfl) (fun _ _ _ h => h) (Or.inl ⟨by kernel_rfl, fun w' hw => by (go_simp)⟩) hS ?_
  refine wpAnyH_take (i := 7) (v := (.pointer (some ⟨g, 0, none⟩))) rfl (by kernel_rfl) (by kernel_rfl) (by kernel_rfl) (fun _ _ _ h => h) (Or.inl ⟨by kernel_rfl, fun w' hw => by (go_simp)⟩) hS ?_
  refine wpAnyH_take (i := 8) (v := (.pointer (some ⟨g, 2, none⟩))) rfl (by kernel_rfl) (by kernel_rfl) (by kernel_rfl) (fun _ _ _ h => h) (Or.inl ⟨by kernel_rfl, fun w' hw => by (go_simp)⟩) hS ?_
  refine wpAnyH_take (i := 9) (v := (.int .i64 (to : Int))) rfl (by kernel_rfl) (by kernel_rfl) (by kernel_rfl) (fun _ _ _ h => h) (Or.inl ⟨by kernel_rfl, fun w' hw => by (go_simp)⟩) hS ?_
  refine wpAnyH_take (i := 10) (v := (.int .u16 (to : Int))) rfl (by kernel_rfl) (by kernel_rfl) (by kernel_rfl) (fun _ _ _ h => h) (Or.inl ⟨by kernel_rfl, fun w' hw => by (have wt := WT.out; go_simp)⟩) hS ?_
  refine gp_go (i := 5) (by kernel_rfl) rfl (by kernel_rfl) (fun K hK => ?_)
  go_wp2_with (go_at_call 46; refine (KP1.out _).mono ?_; rintro e X1 ⟨rfl, hb1, ho1⟩; have HX1 := hide (HW0.out.drew.trans (hb1.mono HBS.out)); have HBS1 := hide (Nat.le_trans HBS.out hb1.size); have HY1 := hide (bseq (Below.refl _ W0).drew hb1 : Below W0.heap.size W0 X1); have HO1 := hide ho1; clear hb1 ho1)
  have hS1 := CF.out _ HX1.out
  refine hK.out _ _ hS1 ?_
  clear hK K
  refine gp_go (i := 11) (by kernel_rfl) rfl (by kernel_rfl) (fun K hK => ?_)
  go_wp2_with (go_at_call 46; refine (KP2.out _ _ HO1.out).mono ?_; rintro e X2 ⟨rfl, hb2, ho2⟩; have HX2 := hide (HX1.out.trans (hb2.mono HBS1.out)); have HBS2 := hide (Nat.le_trans HBS1.out hb2.size); have HY2 := hide (bseq HY1.out hb2); have HO2 := hide ho2; clear hb2 ho2)
  have hS2 := CF.out _ HX2.out
  refine hK.out _ _ hS2 ?_
  clear hK K
  refine gp_go (i := 12) (by kernel_rfl) rfl (by kernel_rfl) (fun K hK => ?_)
  go_wp2_with (fail)
  refine hK.out _ _ hS2 ?_
  clear hK K
  refine wpAnyH_done (by kernel_rfl) ?_ _
  try simp only [Act.put, List.getElem_toArray, List.getElem_cons_zero, List.getElem_cons_succ, List.setIfInBounds_toArray, List.set_cons_zero, List.set_cons_succ]
  have s3 := fun W => gp_all g W
  have hgap : GapC X2 g f to d := HH.out.below HX2.out hgl
  have hR : RowsN (X2.alloc (.cells #[.slice (some ⟨X1.heap.size, 0, none⟩) 4 4, .slice (some ⟨g, 3, none⟩) 252 252] 22)) X2.heap.size [leB 2 f ++ leB 2 to, d] := by
    have hA : Below X2.heap.size X2 (X2.alloc (.cells #[.slice (some ⟨X1.heap.size, 0, none⟩) 4 4, .slice (some ⟨g, 3, none⟩) 252 252] 22)) := (Below.refl _ _).alloc (Nat.le_refl _) _
    refine ⟨by simp, fun i r hr => ?_⟩
    match i, hr with
    | 0, hr =>
      simp at hr; subst hr
      exact ⟨⟨X1.heap.size, 0, none⟩, 4, by simp [leB_length], (HO2.out.sl (fun x hx => (List.mem_append.1 hx).elim (leB_lt 2 f x) (leB_lt 2 to x))).below hA⟩
    | 1, hr =>
      simp at hr; subst hr
      have hs := hgap.sl HBY.out 0 252
      rw [List.drop_zero, List.take_of_length_le (by rw [HD.out]; exact Nat.le_refl _)] at hs
      exact ⟨⟨g, 3, none⟩, 252, by simp [HD.out], hs.below hA⟩
    | n + 2, hr => simp at hr
  have HR := hide hR
  obtain ⟨bk, hbk⟩ : ∃ bk, bk = blkC f to d := ⟨_, rfl⟩
  have hbl : bk.length = 256 := by rw [hbk]; exact blkC_len HD.out
  have kc : ∀ W b, RowsN W b [leB 2 f ++ leB 2 to, d] → Calls Try.prog 47 #[.slice (some ⟨b, 0, none⟩) 2 2] W fun e w' => ∃ G cap cur, e = .returned (.slice (some ⟨G, 0, none⟩) 256 cap) ∧ w'.heap[G]? = some (.cells cur 5 (0, 0)) ∧ cur.toList.take 256 = bk.map B8 ∧ Below W.heap.size W w' := fun W b hW => by
    have e : [leB 2 f ++ leB 2 to, d].flatten = bk := by rw [hbk]; simp [blkC]
    refine (concat_any b 2 _ W hW (by simp) (by rw [e, hbl]; omega) (by rw [e, hbl]; omega)).mono ?_
    rintro e2 w' ⟨v, rfl, hown, hb⟩
    rw [e, hbl] at hown
    obtain ⟨_, ⟨_, h0⟩ | ⟨G, cap, cur, rfl, _, hc, _, _, _, ht⟩⟩ := hown
    · cases h0
    · exact ⟨G, cap, cur, rfl, hc, by simpa using ht, hb⟩
  have KC := hide kc
  have HA2 := hide ((Below.refl _ X2).alloc (Nat.le_refl _) (.cells #[.slice (some ⟨X1.heap.size, 0, none⟩) 4 4, .slice (some ⟨g, 3, none⟩) 252 252] 22))
  have SI := hide (show (Try.prog.info? 69).map (·.size) = some (bk.map B8).toArray.size by rw [List.size_toArray, List.length_map, hbl]; kernel_rfl)
  have SL := hide (show (Try.prog.info? 69).map (·.size) = some (bk.map B8).length by rw [List.length_map, hbl]; kernel_rfl)
  have S1 := hide (all_oneCell_toArray (B8_one bk))
  have HBL := hide hbl
  have HBK := hide hbk
  have HB0 := hide (heap_ltK N0.out)
  clear hgap hR hbk hbl kc hS hS1 hS2
  go_wp2_with (first
    | (go_at_call 47; refine (KC.out _ _ HR.out).mono ?_; rintro e X4 ⟨G, cap, cur, rfl, hc4, ht4, hb4⟩; have HX4 := hide (bseq HA2.out (hb4.mono (by simp)) : Below X2.heap.size X2 X4); have ha4 := fun W => arr_of W G 256 cap (Nat.le_refl _); have HRG := hide (gp_range hc4 (bk.map B8) (by rw [List.length_map, HBL.out]; exact ht4)); have N4 := hide (((HX4.out.block _ (Nat.lt_of_lt_of_le HB0.out HY2.out.size)).trans (HY2.out.block _ HB0.out)).trans N0.out); have TH := hide (gp_there N4.out (bk.map B8).toArray.size (by rw [List.size_toArray, List.length_map, HBL.out, HZL.out]; exact Nat.le_refl _)); clear hc4 ht4 hb4)
    | (refine wpList_load_mid rfl 69 (.tmp 23) rfl G 0 (by kernel_rfl) (bk.map B8) (.array 256 5) HRG.out (by kernel_rfl) rfl SL.out ?_)
    | (refine wpList_store_mid rfl 69 (.tmp 2) (.tmp 24) rfl B 0 (bk.map B8).toArray (by kernel_rfl) (by kernel_rfl) TH.out SI.out S1.out ?_))
  try go_frame
  have hh := gp_over N4.out (vs := bk.map B8) (by rw [List.length_map, HBL.out, HZL.out])
  refine bodyPost_ret (results_cell_row rfl _ _ B 69 (bk.map B8).toArray (0, 0) (.array 256 5) rfl hh (by kernel_rfl) rfl SI.out) rfl ?_
  rw [← HBK.out]
  refine ⟨rfl, ?_⟩
  have h4 : Below B w X4 := HX2.out.trans (HX4.out.mono HBS2.out)
  have h5 := (Ke.setCells (X := fun k => k = B) X4 B 0 (bk.map B8) rfl).below (B := B) (Nat.le_of_lt (heap_ltK N4.out)) (fun k hk => by omega)
  rw [HBE.out]
  exact h4.trans h5
end
end Go.Proofs.Ytheefdplbmneeaa
