/- Pure: a row of operations that the power leaves, and what a Write leaves then. -/
import Derived.Test.YtgfgihpkbbjkfaaUgOM
import Derived.Test.YtgfgihpkbbjkfaaQTwoM
import Derived.Deep.QuietTactic
import Derived.BigQuiet
import Derived.WalkSmall
import Derived.Test.YtgfgihpkbbjkfaaROpen
import Derived.ChangeSlices
import Derived.Deep.Slices
import Derived.Test.YtgfgihpkbbjkfaaUgMM
namespace Go.Proofs.Ytgfgihpkbbjkfaa
open Go.RowKit Go.Shelf
set_option linter.unusedVariables false
set_option maxRecDepth 100000
attribute [local go_sem] Oper.semAt_some
theorem recs_nd : NDt 38 := ⟨by decide, by decide, by decide, by decide, by decide, by decide⟩
/-- The two cells of a record whose bytes lie at block R. -/
def pairC (p : (Nat × List Nat) × Nat) : Value × Value := (.int .i64 (p.1.1 : Int), .slice (some ⟨p.2, 24, none⟩) p.1.2.length ((recB p.1.1 p.1.2).length - 24))
theorem flat2 {α : Type} (f : α → Value × Value) : ∀ (l : List α) (i : Nat) (p : Value × Value), (l.map f)[i]? = some p → (l.flatMap (fun x => [(f x).1, (f x).2]))[i * 2]? = some p.1 ∧ (l.flatMap (fun x => [(f x).1, (f x).2]))[i * 2 + 1]? = some p.2
  | [], i, p, h => by simp at h
  | x :: t, 0, p, h => by
    simp at h
    subst h
    simp
  | x :: t, i + 1, p, h => by
    rw [List.map_cons, List.getElem?_cons_succ] at h
    have k := flat2 f t i p h
    have e : (i + 1) * 2 = i * 2 + 1 + 1 := by omega
    rw [List.flatMap_cons, e]
    simpa using k
theorem RowC.slice {w : World} {base : Nat} {v : Value} {rs : List (Nat × List Nat)} {Rs : List Nat} (h : RowC w base v rs Rs) (hne : 1 ≤ rs.length) : ∃ gr cap cur, v = .slice (some ⟨gr, 0, none⟩) rs.length cap ∧ w.heap[gr]? = some (.cells cur 57 (0, 0)) ∧ base ≤ gr ∧ ∀ (i : Nat) (p : (Nat × List Nat) × Nat), (rs.zip Rs)[i]? = some p → cur[i * 2]? = some (pairC p).1 ∧ cur[i * 2 + 1]? = some (pairC p).2 := by
  rcases h.row.2 with ⟨rfl, e⟩ | ⟨gr, cap, cur, rfl, h1, h2, h3, h4, h5, h6⟩
  · omega
  · refine ⟨gr, cap, cur, rfl, h2, h1, fun i p hp => ?_⟩
    have k := flat2 pairC (rs.zip Rs) i (pairC p) (by rw [List.getElem?_map, hp]; rfl)
    have hi : i < rs.length := by
      have := (List.getElem?_eq_some_iff.1 hp).1
      rw [List.length_zip] at this
      omega
    have e : (rs.zip Rs).flatMap (fun p => recC p.1 p.2) = (rs.zip Rs).flatMap (fun x => [(pairC x).1, (pairC x).2]) := rfl
    rw [e] at h6
    have hx : ∀ j, j < rs.length * 2 → cur[j]? = (cur.toList.take (rs.length * 2))[j]? := fun j hj => by
      rw [List.getElem?_take, if_pos hj, Array.getElem?_toList]
    rw [hx _ (by omega), hx _ (by omega), h6]
    exact k
theorem bkL_told {rs : List (Nat × List Nat)} {Rs : List Nat} {pre : List (Nat × ((Nat × List Nat) × Nat))} {x : Nat × ((Nat × List Nat) × Nat)} (hl : Rs.length = rs.length) (h : pre ++ [x] <+: bkL (rs.zip Rs)) : ∃ j r R, x = (j, (r, R)) ∧ rs[j]? = some r ∧ Rs[j]? = some R ∧ rs.length = pre.length + j + 1 := by
  have hle := h.length_le
  have hcl : (rs.zip Rs).length = rs.length := by rw [List.length_zip, hl, Nat.min_self]
  rw [bkL_len, hcl, List.length_append, List.length_singleton] at hle
  obtain ⟨j, hj⟩ : ∃ j, rs.length = pre.length + j + 1 := ⟨rs.length - pre.length - 1, by omega⟩
  obtain ⟨r, hr⟩ : ∃ r, rs[j]? = some r := ⟨_, List.getElem?_eq_getElem (by omega)⟩
  obtain ⟨R, hR⟩ : ∃ R, Rs[j]? = some R := ⟨_, List.getElem?_eq_getElem (by omega)⟩
  have hc : (rs.zip Rs)[j]? = some (r, R) := List.getElem?_zip_eq_some.2 ⟨hr, hR⟩
  have h1 := bkL_at hc (by rw [hcl]; exact hj : (rs.zip Rs).length = pre.length + j + 1)
  obtain ⟨t, ht⟩ := h
  rw [← ht] at h1
  rw [List.append_assoc, List.getElem?_append_right (Nat.le_refl _), Nat.sub_self] at h1
  simp at h1
  exact ⟨j, r, R, h1, hr, hR, hj⟩
theorem loadN {w : World} {g : Nat} {v : Value} (h : w.cell? ⟨g, 0, none⟩ = some v) : (loadVar 3 ⟨g, 0, none⟩).run Try.prog w = .ok v w := by
  simp [loadVar, Sem.run_bind, Try.isAgg3, h, go_sem]
theorem rolB_pre (rs : List (Nat × List Nat)) (k : Nat) : ∃ tl, rolB rs rs.length = rolB rs k ++ tl := by
  refine ⟨(rs.reverse.drop k).flatMap (fun r => bckF r.1 r.2), ?_⟩
  rw [rolB_all]
  unfold rolB
  rw [← List.flatMap_append, List.take_append_drop]
theorem Atd.up {w w' : World} {b m m' : Nat} {L : Lay} {σ s : St} (h : Atd w b L σ w' s m) (hm : m ≤ m') : Atd w b L σ w' s m' := by
  obtain ⟨h1, L', h2, h3, h4⟩ := h
  exact ⟨h1, L', h2, h3, by omega⟩
/-- Where Rollback stands behind its loop. -/
structure Fin8 (w : World) (b : Nat) (L : Lay) (σ : St) (D : Nat) (W : World) (L' : Lay) (s : St) (m : Nat) : Prop where
  i : Boxed W (w.heap.size + 1) 3 (.int .i64 0)
  e : Boxed W (w.heap.size + 1 + 1) 35 (.int .i64 0)
  d : W.heap[D]? = some (.deferred (some []))
  gr : Gr (Foot b L σ) w W
  dev : DevL W b L' s
  ft : ∀ k, Foot b L' s k → Foot b L σ k ∨ w.heap.size ≤ k
  num : L'.N ≤ L.N + m
  ni : ¬ Foot b L' s (w.heap.size + 1)
  ne : ¬ Foot b L' s (w.heap.size + 1 + 1)
  nd : ¬ Foot b L' s D
  dl : w.heap.size ≤ D
section
variable {w W W' : World} {b D m m' : Nat} {L L' : Lay} {σ s s' : St}
theorem Fin8.next (h : Fin8 w b L σ D W L' s m) (ha : Atd W b L' s W' s' m') : ∃ L'', Fin8 w b L σ D W' L'' s' (m + m') := by
  obtain ⟨hg, L2, hd, hf, hN⟩ := ha
  have hn := h.num
  have hsz := h.gr.size
  have no : ∀ k, k < W.heap.size → ¬ Foot b L' s k → ¬ Foot b L2 s' k := fun k hk hx hy => (hf k hy).elim hx (fun h => by omega)
  exact ⟨L2, hg.keep h.i h.ni, hg.keep h.e h.ne, hg.keep h.d h.nd, h.gr.trans hg h.ft, hd, fun k hk => (hf k hk).elim (h.ft k) (fun h => .inr (by omega)), by omega, no _ (lt_of_heap h.i) h.ni, no _ (lt_of_heap h.e) h.ne, no _ (lt_of_heap h.d) h.nd, h.dl⟩
theorem Fin8.last (h : Fin8 w b L σ D W L' s m) (v c : Value) : ((W.setCell ⟨w.heap.size + 1, 0, none⟩ v).setCell ⟨w.heap.size + 1 + 1, 0, none⟩ c).heap[D]? = some (.deferred (some [])) ∧
    Boxed (((W.setCell ⟨w.heap.size + 1, 0, none⟩ v).setCell ⟨w.heap.size + 1 + 1, 0, none⟩ c).putObj D (.deferred none)) (w.heap.size + 1) 3 v ∧
    Boxed (((W.setCell ⟨w.heap.size + 1, 0, none⟩ v).setCell ⟨w.heap.size + 1 + 1, 0, none⟩ c).putObj D (.deferred none)) (w.heap.size + 1 + 1) 35 c ∧
    Atd w b L σ (((W.setCell ⟨w.heap.size + 1, 0, none⟩ v).setCell ⟨w.heap.size + 1 + 1, 0, none⟩ c).putObj D (.deferred none)) s m := by
  have h1 : D ≠ w.heap.size + 1 := fun e => by have := h.d; rw [e, show W.heap[w.heap.size + 1]? = _ from h.i] at this; cases this
  have h2 : D ≠ w.heap.size + 1 + 1 := fun e => by have := h.d; rw [e, show W.heap[w.heap.size + 1 + 1]? = _ from h.e] at this; cases this
  have d1 : (W.setCell ⟨w.heap.size + 1, 0, none⟩ v).heap[D]? = some (.deferred (some [])) := (heap_set_ne W _ 0 D _ h1).trans h.d
  have d2 : ((W.setCell ⟨w.heap.size + 1, 0, none⟩ v).setCell ⟨w.heap.size + 1 + 1, 0, none⟩ c).heap[D]? = some (.deferred (some [])) := (heap_set_ne _ _ 0 D _ h2).trans d1
  have i1 : Boxed (W.setCell ⟨w.heap.size + 1, 0, none⟩ v) (w.heap.size + 1) 3 v := h.i.set _
  have i2 : Boxed ((W.setCell ⟨w.heap.size + 1, 0, none⟩ v).setCell ⟨w.heap.size + 1 + 1, 0, none⟩ c) (w.heap.size + 1) 3 v := (heap_set_ne _ _ 0 _ _ (by omega)).trans i1
  have e1 : Boxed (W.setCell ⟨w.heap.size + 1, 0, none⟩ v) (w.heap.size + 1 + 1) 35 (.int .i64 0) := (heap_set_ne W _ 0 _ _ (by omega)).trans h.e
  have e2 : Boxed ((W.setCell ⟨w.heap.size + 1, 0, none⟩ v).setCell ⟨w.heap.size + 1 + 1, 0, none⟩ c) (w.heap.size + 1 + 1) 35 c := e1.set _
  refine ⟨d2, (World.putObj_heap_other (Ne.symm h1)).trans i2, (World.putObj_heap_other (Ne.symm h2)).trans e2, ?_, L', ?_, h.ft, h.num⟩
  · have g1 : Gr (fun k => k = w.heap.size + 1) W (W.setCell ⟨w.heap.size + 1, 0, none⟩ v) := Gr.set W _ 0 _ rfl
    have g2 : Gr (fun k => k = w.heap.size + 1 + 1) (W.setCell ⟨w.heap.size + 1, 0, none⟩ v) ((W.setCell ⟨w.heap.size + 1, 0, none⟩ v).setCell ⟨w.heap.size + 1 + 1, 0, none⟩ c) := Gr.set _ _ 0 _ rfl
    have g3 : Gr (fun k => k = D) ((W.setCell ⟨w.heap.size + 1, 0, none⟩ v).setCell ⟨w.heap.size + 1 + 1, 0, none⟩ c) (((W.setCell ⟨w.heap.size + 1, 0, none⟩ v).setCell ⟨w.heap.size + 1 + 1, 0, none⟩ c).putObj D (.deferred none)) := Gr.of_grown (grownBy_putObj' _ D _) (fun k hk => .inl (by cases hk; rfl))
    refine ((h.gr.trans g1 (fun i h => .inr (by omega))).trans g2 (fun i h => .inr (by omega))).trans g3 (fun i hi => ?_)
    subst hi
    exact .inr h.dl
  · exact ((h.dev.keep (w' := W.setCell ⟨w.heap.size + 1, 0, none⟩ v) (fun k hk => heap_set_ne W (w.heap.size + 1) 0 k _ (fun e => h.ni (e ▸ hk)))).keep (w' := (W.setCell ⟨w.heap.size + 1, 0, none⟩ v).setCell ⟨w.heap.size + 1 + 1, 0, none⟩ c) (fun k hk => heap_set_ne _ (w.heap.size + 1 + 1) 0 k _ (fun e => h.ne (e ▸ hk)))).put_ d2 _
end
set_option maxHeartbeats 2000000 in
theorem lrollback_in {w : World} {g b a z : Nat} {L : Lay} {σ : St} (rs : List (Nat × List Nat)) (h : LogL w g b a z) (hd : Dv w b L σ) (ha8 : a % 8 = 0) (ha : 64 ≤ a) (hz : 64 ≤ z) (haz : a + z ≤ 64 * σ.n) (hops : σ.ops + 30000000 ≤ 1400000000000) (hnum : leV ((σ.bytes.drop a).take 8) = rs.length) (hrs : RecsAt a z σ.n σ.bytes (a + 64) rs) (hk : rs.length ≤ 4194304) (hne : 1 ≤ rs.length) :
    CallsIn Fence.wide 3 Try.prog 18 #[.pointer (some ⟨g, 0, none⟩)] w fun e w' => ∃ c s, e = .returned (.tuple #[.int .i64 (if c = 0 then (rs.length : Int) else 0), .int .i64 c]) ∧ RunD (rolF a rs) σ c s ∧ Atd w b L σ w' s (rolF a rs).length := by
  have hnm := hd.ok.max
  have hO := hd.dev.old_
  have hbk := RecsAt.each haz ha hd.ok.byte rs _ hrs
  have htot := RecsAt.total rs (a + 64) (by omega) hrs
  have hfew := fun k => rolB_few hnm hbk k
  have hlk := fun k => acts_like (N := σ.n) (rolB rs k) σ (rolB_good hnm hbk k) hd.ok rfl (by have := hfew k; omega)
  have HB0 := hide (show Below w.heap.size w (((w.alloc (.cells #[.pointer (some ⟨g, 0, none⟩)] 29)).alloc (.cells #[.int .i64 0] 3)).alloc (.cells #[.int .i64 0] 35)) from (((Below.refl _ w).alloc (Nat.le_refl _) _).alloc (by simp) _).alloc (by simp; omega) _)
  have hsz : (((w.alloc (.cells #[.pointer (some ⟨g, 0, none⟩)] 29)).alloc (.cells #[.int .i64 0] 3)).alloc (.cells #[.int .i64 0] 35)).heap.size = w.heap.size + 3 := by simp
  have b2 := ((Boxed.new w 29 (.pointer (some ⟨g, 0, none⟩))).alloc (.cells #[.int .i64 0] 3)).alloc (.cells #[.int .i64 0] 35)
  have b3 := (Boxed.new (w.alloc (.cells #[.pointer (some ⟨g, 0, none⟩)] 29)) 3 (.int .i64 0)).alloc (.cells #[.int .i64 0] 35)
  have b4 := Boxed.new ((w.alloc (.cells #[.pointer (some ⟨g, 0, none⟩)] 29)).alloc (.cells #[.int .i64 0] 3)) 35 (.int .i64 0)
  simp only [World.size_alloc] at b3 b4
  have KREC := hide (fun W (hB : Below w.heap.size w W) => lrecords_ok rs (h.below hB) (hd.below hB) ha8 hz haz hnum hrs hk)
  have HLOG := hide h
  have HDV := hide hd
  have HBK := hide hbk
  have HLK := hide hlk
  have HFEW := hide hfew
  clear hd hnum hrs hbk hlk hfew
  have c2 := b2.cell
  have B2 := hide b2
  have B3 := hide b3
  have B4 := hide b4
  clear b2 b3 b4 h
  refine callsIn_of_wp_marks Try.func18 rfl trivial ?_ rfl
  simp only [Try.ntmps18, List.size_toArray, List.length_cons, List.length_nil, Nat.reduceAdd, Nat.reduceSub, Array.replicate_succ, Array.replicate_zero, List.push_toArray, List.append_toArray, List.nil_append, List.cons_append]
  obtain ⟨m, hm⟩ : ∃ m, rs.length = m := ⟨_, rfl⟩
  have hm0 : ((m : Int) == 0) = false := by simp; omega
  have HM := hide hm
  rw [hm] at hk hne
  have hmI : (m : Int) ≤ 4194304 := by omega
  gi_wp2_with (first
    | (refine ⟨trivial, ?_⟩; gi_at_call 10; refine (inW (KREC.out _ HB0.out)).mono ?_; rintro e W1 ⟨v, Rs, rfl, hrow, hb1⟩; obtain ⟨gr, cap, cur, rfl, hgr, hgb, hcur⟩ := hrow.slice (by rw [HM.out]; exact hne); rw [HM.out]; have HROW := hide hrow; have HB1 := hide hb1; have HGR := hide hgr; have HCUR := hide hcur; clear hrow hb1 hgr hcur c2)
    | (refine ⟨trivial, ?_⟩; gi_at_call 42; refine (backward_in _ _ trivial rfl _ _ _ _).mono ?_; rintro e w' ⟨rfl, rfl⟩))
  generalize ((w.alloc (.cells #[.pointer (some ⟨g, 0, none⟩)] 29)).alloc (.cells #[.int .i64 0] 3)).alloc (.cells #[.int .i64 0] 35) = W0 at *
  have hA : Below W1.heap.size W1 (W1.alloc (.cells #[.slice (some ⟨gr, 0, none⟩) m cap] 38)) := (Below.refl _ W1).alloc (Nat.le_refl _) _
  have bB := Boxed.new W1 38 (.slice (some ⟨gr, 0, none⟩) m cap)
  have hsz2 : (W1.alloc (.cells #[.slice (some ⟨gr, 0, none⟩) m cap] 38)).heap.size = W1.heap.size + 1 := by simp
  obtain ⟨W2, hW2⟩ : ∃ W2, W1.alloc (.cells #[.slice (some ⟨gr, 0, none⟩) m cap] 38) = W2 := ⟨_, rfl⟩
  rw [hW2] at hA bB hsz2 ⊢
  clear hW2
  have hB02 := bseq HB1.out hA
  have hB2 := bseq HB0.out hB02
  have hs1 := HB1.out.size
  have e2 : Boxed W2 w.heap.size 29 (.pointer (some ⟨g, 0, none⟩)) := (hB02.block _ (by omega)).trans B2.out
  have e3 : Boxed W2 (w.heap.size + 1) 3 (.int .i64 0) := (hB02.block _ (by omega)).trans B3.out
  have e4 : Boxed W2 (w.heap.size + 1 + 1) 35 (.int .i64 0) := (hB02.block _ (by omega)).trans B4.out
  have hgl : gr < W1.heap.size := lt_of_heap HGR.out
  have e6 : W2.heap[gr]? = some (.cells cur 57 (0, 0)) := (hA.block _ hgl).trans HGR.out
  have hrow2 := HROW.out.keep hA
  have hown2 : ∀ (i : Nat) (r : Nat × List Nat) (R : Nat), rs[i]? = some r → Rs[i]? = some R → OwnB W2 R (recB r.1 r.2) := fun i r R h1 h2 => (hrow2.own i r R h1 h2).1
  have hRl := hrow2.len
  have hcl : (rs.zip Rs).length = m := by rw [List.length_zip, hRl, Nat.min_self]; exact hm
  have elog := HLOG.out.below hB2
  have hglt : g < W2.heap.size := lt_of_heap elog
  have hd2 := HDV.out.dev.below hB2
  have HOWN2 := hide hown2
  clear hrow2 hown2
  apply rangeP (gf := 64) (lb := #[.pointer (some ⟨W1.heap.size, 0, none⟩)]) (encs := encB pairC) rfl (enters_of Try.func64 (by kernel_rfl) rfl)
    (backward_x pairC HP (fun k => k = W1.heap.size ∨ k = gr) W1.heap.size gr m cap (rs.zip Rs) cur W2 (fun k hk => by omega) (.inl rfl) (.inr rfl) bB e6 hcl hk HCUR.out) (Below.refl _ _) (fun k hk => by omega) (fun _ => rfl)
    (fun pre W' => (Boxed W' w.heap.size 29 (.pointer (some ⟨g, 0, none⟩)) ∧ (LogL W' g b a z ∧ (Boxed W' (w.heap.size + 1) 3 (.int .i64 0) ∧ (Boxed W' (w.heap.size + 1 + 1) 35 (.int .i64 0) ∧ (Boxed W' W1.heap.size 38 (.slice (some ⟨gr, 0, none⟩) m cap) ∧ W'.heap[gr]? = some (.cells cur 57 (0, 0))))))) ∧ ((∀ (i : Nat) (r : Nat × List Nat) (R : Nat), rs[i]? = some r → Rs[i]? = some R → OwnB W' R (recB r.1 r.2)) ∧ (W2.heap.size ≤ W'.heap.size ∧ (Gr (Foot b L σ) w W' ∧ ∃ L', DevL W' b L' (acts (rolB rs pre.length) σ) ∧ (SameL L L' ∧ L'.N ≤ L.N + (rolB rs pre.length).length ∧ ∀ k, Foot b L' (acts (rolB rs pre.length) σ) k → Foot b L σ k ∨ w.heap.size ≤ k)))))
    (fun c pre W' => (c = .ret ∧ (Boxed W' (w.heap.size + 1) 3 (.int .i64 0) ∧ Boxed W' (w.heap.size + 1 + 1) 35 (.int .i64 5))) ∧ (Gr (Foot b L σ) w W' ∧ ∃ L' s, DevL W' b L' s ∧ ((L'.KB = L.KB ∧ L'.N ≤ L.N + (rolB rs pre.length).length) ∧ RunD (rolB rs pre.length) σ 5 s ∧ ∀ k, Foot b L' s k → Foot b L σ k ∨ w.heap.size ≤ k)))
    (Stab.and (Stab.and (Stab.box _ _ (by omega)) (Stab.and (stab_log hglt) (Stab.and (Stab.box _ _ (by omega)) (Stab.and (Stab.box _ _ (by omega)) (Stab.and (Stab.box _ _ (by omega)) (Stab.blk _ (by omega))))))) (Stab.and (fun s W W' hJ hs i r R h1 h2 => hs.2 R _ (hJ i r R h1 h2) (.inl (HOWN2.out i r R h1 h2).lt)) (Stab.and (fun s A B h hs => Nat.le_trans h hs.1.2.2.2) (Stab.and (stab_gr (by omega)) (fun s W W' hJ hs => by obtain ⟨L', h1, h2, h3⟩ := hJ; exact ⟨L', stab_dev (σ := fun _ : Unit => acts (rolB rs s.length) σ) (hO.same h2) (by omega) () W W' h1 hs, h2, h3⟩)))))
    (fun c => Stab.and (Stab.and (Stab.pure _) (Stab.and (Stab.box _ _ (by omega)) (Stab.box _ _ (by omega)))) (Stab.and (stab_gr (by omega)) (fun s W W' hJ hs => by obtain ⟨L', σ', h1, h2⟩ := hJ; exact ⟨L', σ', dev_sub h1 (fun k hk => by rw [h2.1.1] at hk; have := hO.kb k hk; omega) hs, h2⟩)))
    ⟨⟨e2, elog, e3, e4, bB, e6⟩, HOWN2.out, Nat.le_refl _, Gr.of_below hB2, L, hd2, SameL.refl L, Nat.le_refl _, fun k hk => .inl hk⟩ (fun x => #[(pairC x.2).1, (pairC x.2).2]) 57
  case hsize => exact fun s W h => h.2.2.1
  case hassign =>
    intro l' x W' K hK
    simp only [encB, pairC]
    gi_wp2
    exact hK _ ((Below.refl _ _).alloc (Nat.le_refl _) _) (heap_alloc_new _ _)
  case hbody =>
    rintro l' pre x Wb W ⟨⟨h2, hlg, h3, h4, h5, h6⟩, hown, hszW, hgW, L', hdW, hsame, hNL, hfoot⟩ hWb hpc hpx
    obtain ⟨j, r, R, rfl, hr, hR, hj⟩ := bkL_told hRl hpx
    obtain ⟨q1, q2, q3⟩ := HBK.out r (List.mem_of_getElem? hr)
    have hl := HLK.out pre.length
    have hfw := HFEW.out pre.length
    have hlo := hl.ops
    have hdv := HDV.out.of_like hdW hl hNL (by omega)
    have hrl := recB_len r.1 r.2
    have hoR := hown j r R hr hR
    have krs := lrestore_any (xn := r.1) (old := r.2) (R := R) (o := 24) (cap := (recB r.1 r.2).length - 24) hlg hdv (by omega) (own_old hoR q3) (by omega) (by rw [hl.n]; exact q2) ⟨hoR.lt, foot_nd hdW hoR byte_nd⟩
    have hsu := rolB_succ hr hj
    have hps : (pre ++ [(j, (r, R))]).length = pre.length + 1 := by simp
    have p0 : W.cell? ⟨Wb.heap.size, 0, none⟩ = some (.int .i64 (r.1 : Int)) := cell8 hpc 0
    have p1 : W.cell? ⟨Wb.heap.size, 1, none⟩ = some (.slice (some ⟨R, 24, none⟩) r.2.length ((recB r.1 r.2).length - 24)) := cell8 hpc 1
    have c2 := h2.cell
    have hOL := hO.same hsame
    have n2 := foot_nd hdW h2 plog_nd
    have nl := foot_nd hdW hlg log_nd
    have n3 := box_foot hdW hOL h3 (by omega) (by unfold HP; decide)
    have n4 := foot_nd hdW h4 err_nd
    have n5 := foot_nd hdW h5 recs_nd
    have n6 := foot_nd hdW h6 rec_nd
    have nR : ∀ (i : Nat) (r : Nat × List Nat) (R : Nat), rs[i]? = some r → Rs[i]? = some R → ¬ Foot b L' (acts (rolB rs pre.length) σ) R := fun i r R h1 h2 => foot_nd hdW (hown i r R h1 h2) byte_nd
    have HLA := hide hl.arms
    generalize hgk : acts (rolB rs pre.length) σ = sk at *
    have HGK := hide hgk
    have hacc : acts (rolB rs (pre.length + 1)) σ = acts (bckF r.1 r.2) sk := by rw [hsu, acts_append, hgk]
    have KRS := hide krs
    have HSU := hide hsu
    have HACC := hide hacc
    have HPS := hide hps
    have H2 := hide h2
    have HLG := hide hlg
    have H3 := hide h3
    have H4 := hide h4
    have H5 := hide h5
    have H6 := hide h6
    have HOWN := hide hown
    have HG := hide hgW
    have HD := hide hdW
    have HS := hide hsame
    have HF := hide hfoot
    have HOL := hide hOL
    have HNR := hide nR
    have N3 := hide n3
    have N4 := hide n4
    clear krs hsu hacc hps h2 hlg h3 h4 h5 h6 hown hgW hdW hsame hfoot hOL nR hgk hdv hoR hl hpx hpc hr hR q1 q2 q3 hrl
    obtain ⟨rx, old⟩ := r
    simp only at p0 p1 KRS HSU HACC
    generalize hRB : (recB rx old).length - 24 = rc at *
    generalize hOLn : old.length = ol at *
    clear hRB hOLn
    gi_wp2_with (fail)
    refine ⟨trivial, ?_⟩
    gi_at_call 43
    refine (inR (KRS.out)).mono ?_
    rintro e W3 ⟨c, s3, rfl, hrun, hg3, L3, hd3, hf3, hN3, hk3, hs3⟩
    have HG3 := hide hg3
    have HD3 := hide hd3
    have HF3 := hide hf3
    have hsz3 := hg3.size
    rcases hrun.code with rfl | rfl
    · have HS3 := hide (hs3 rfl)
      have HZ3 := hide hrun.zero
      clear hg3 hd3 hf3 hk3 hs3 hrun
      gi_wp2
      have g1 := HG3.out
      have hdW := HD.out
      have hOL := HOL.out
      have ez : s3 = acts (rolB rs (pre ++ [(j, ((rx, old), R))]).length) σ := by rw [HPS.out, HACC.out]; exact HZ3.out
      refine ⟨g1.kp (fun k o hk hf => ⟨fun hn => by rcases hn with e | e; exact n5 (e ▸ hf); exact n6 (e ▸ hf), ?_⟩), ⟨g1.keep H2.out n2, g1.keep HLG.out nl, g1.keep H3.out n3, g1.keep H4.out n4, g1.keep H5.out n5, g1.keep H6.out n6⟩, fun i r R h1 h2 => g1.keep (HOWN.out i r R h1 h2) (HNR.out i r R h1 h2), by omega, HG.out.trans g1 HF.out, L3, ?_, HS.out.trans HS3.out, ?_, fun k hk => ?_⟩
      · rcases foot_cases hdW hOL hf with h1 | ⟨o', h1, h2⟩
        · exact .inl (by omega)
        · rw [hk] at h1; cases h1; exact .inr h2
      · rw [← ez]; exact HD3.out
      · rw [HPS.out, HSU.out, List.length_append]; omega
      · rw [← ez] at hk
        rcases HF3.out k hk with h5 | h5
        · exact HF.out k h5
        · exact .inr (by have := HG.out.size; omega)
    · have HK3 := hide hk3
      have HR3 := hide hrun
      have y3 : Boxed W3 (w.heap.size + 1) 3 (.int .i64 0) := hg3.keep H3.out N3.out
      have y4 : Boxed W3 (w.heap.size + 1 + 1) 35 (.int .i64 0) := hg3.keep H4.out N4.out
      have y3' : Boxed (W3.setCell ⟨w.heap.size + 1, 0, none⟩ (.int .i64 0)) (w.heap.size + 1) 3 (.int .i64 0) := y3.set _
      have y4' : Boxed (W3.setCell ⟨w.heap.size + 1, 0, none⟩ (.int .i64 0)) (w.heap.size + 1 + 1) 35 (.int .i64 0) := (heap_set_ne W3 _ 0 _ _ (by omega)).trans y4
      have cy3 := y3.cell
      have zy3 := y3.frozen
      have cy4 := y4'.cell
      have zy4 := y4'.frozen
      have Y3 := hide y3'
      have Y4 := hide y4'
      clear hg3 hd3 hf3 hk3 hs3 hrun y3 y4 y3' y4'
      gi_wp2
      have g1 := HG3.out
      have hdW := HD.out
      have hOL := HOL.out
      have hw0 := HG.out.size
      have m3 : ¬ Foot b L3 s3 (w.heap.size + 1) := fun hx => (HF3.out _ hx).elim N3.out (fun h => by have := lt_of_heap H3.out; omega)
      have m4 : ¬ Foot b L3 s3 (w.heap.size + 1 + 1) := fun hx => (HF3.out _ hx).elim N4.out (fun h => by have := lt_of_heap H4.out; omega)
      have hd5 : DevL ((W3.setCell ⟨w.heap.size + 1, 0, none⟩ (.int .i64 0)).setCell ⟨w.heap.size + 1 + 1, 0, none⟩ (.int .i64 5)) b L3 s3 := (HD3.out.keep (w' := W3.setCell ⟨w.heap.size + 1, 0, none⟩ (.int .i64 0)) (fun k hk => heap_set_ne W3 (w.heap.size + 1) 0 k _ (fun e => m3 (e ▸ hk)))).keep (fun k hk => heap_set_ne _ (w.heap.size + 1 + 1) 0 k _ (fun e => m4 (e ▸ hk)))
      have g5 : Gr (Foot b L σ) w ((W3.setCell ⟨w.heap.size + 1, 0, none⟩ (.int .i64 0)).setCell ⟨w.heap.size + 1 + 1, 0, none⟩ (.int .i64 5)) := ((HG.out.trans g1 HF.out).trans (Gr.set W3 _ 0 _ (X := fun k => k = w.heap.size + 1) rfl) (fun i h => .inr (by omega))).trans (Gr.set _ _ 0 _ (X := fun k => k = w.heap.size + 1 + 1) rfl) (fun i h => .inr (by omega))
      have r0 : RunD (rolB rs pre.length) σ 0 sk := .inl ⟨rfl, HGK.out.symm⟩
      refine ⟨((g1.kp (fun k o hk hf => ⟨fun hn => by rcases hn with e | e; exact n5 (e ▸ hf); exact n6 (e ▸ hf), ?_⟩)).trans (Kp.set _ (fun h => by omega) (by omega))).trans (Kp.set _ (fun h => by omega) (by omega)), ⟨rfl, (heap_set_ne _ _ 0 _ _ (by omega)).trans Y3.out, Y4.out.set _⟩, g5, L3, s3, hd5, ⟨HK3.out.trans HS.out.2.2.2.2, ?_⟩, ?_, fun k hk => ?_⟩
      · rcases foot_cases hdW hOL hf with h1 | ⟨o', h1, h2⟩
        · exact .inl (by omega)
        · rw [hk] at h1; cases h1; exact .inr h2
      · rw [HPS.out, HSU.out, List.length_append]; omega
      · rw [HPS.out, HSU.out]; exact r0.app0 HR3.out HLA.out
      · rcases HF3.out k hk with h5 | h5
        · exact HF.out k h5
        · exact .inr (by omega)
  case hdone =>
    rintro D W hD ⟨⟨h2, hlg, h3, h4, h5, h6⟩, hown, hszW, hgW, L', hdW, hsame, hNL, hfoot⟩ hK
    have hbl : (bkL (rs.zip Rs)).length = rs.length := by rw [bkL_len, List.length_zip, hRl, Nat.min_self]
    rw [hbl] at hdW hNL hfoot
    have hl := HLK.out rs.length
    have hfw := HFEW.out rs.length
    have hlo := hl.ops
    have hln := hl.n
    have hdv := HDV.out.of_like hdW hl hNL (by omega)
    have hOL := hO.same hsame
    have n3 := box_foot hdW hOL h3 (by omega) (by unfold HP; decide)
    have n4 := foot_nd hdW h4 err_nd
    have nD : ¬ Foot b L' (acts (rolB rs rs.length) σ) D := fun hx => by
      rcases foot_cases hdW hOL hx with h1 | ⟨o', h1, h2⟩
      · omega
      · rw [hK] at h1
        cases h1
        rcases h2 with ⟨c, t, f, e, _⟩ | ⟨es, q, e⟩ <;> cases e
    have fin : Fin8 w b L σ D W L' (acts (rolB rs rs.length) σ) (rolB rs rs.length).length := ⟨h3, h4, hK, hgW, hdW, hfoot, hNL, n3, n4, nD, by omega⟩
    have r0 : RunD (rolB rs rs.length) σ 0 (acts (rolB rs rs.length) σ) := .inl ⟨rfl, rfl⟩
    have hrol : (rolF a rs).length = (rolB rs rs.length).length + (1 + (pubF 0 a).length) := by unfold rolF; rw [List.length_append, List.length_append]; rfl
    have hpf := pub_few (v := 0) (at_ := a) (by omega)
    have HROL := hide hrol
    have HLL := hide hl
    generalize acts (rolB rs rs.length) σ = sk at *
    have KFN := hide (dv_fence hdv (by omega))
    have c2 := h2.cell
    have cl := hlg.c1
    have FIN := hide fin
    have HR0 := hide r0
    have HD := hide hdW
    have H2 := hide h2
    have HLG := hide hlg
    have HDW := hide hdv
    clear h2 hlg h3 h4 h5 h6 hown hgW hdW hsame hNL hfoot hK hl hdv hOL n3 n4 nD fin r0 hrol hbl
    gi_wp2_with (fail)
    refine ⟨trivial, ?_⟩
    gi_at_call 41
    refine (inW (KFN.out)).mono ?_
    rintro e W4 ⟨c, s4, rfl, hrun4, hatd4⟩
    obtain ⟨L4, fin4⟩ := FIN.out.next hatd4
    clear c2 cl
    rcases hrun4.code with rfl | rfl
    · have hl4 : LikeG sk s4 1 := by
        rw [hrun4.zero]
        exact acts_like (N := σ.n) [fnA] sk (fun f hf => by rw [List.mem_singleton.1 hf]; exact fn_good) HDW.out.ok hln (by show sk.ops + 1 ≤ _; omega)
      have hdv4 : Dv W4 b L4 s4 := HDV.out.of_like fin4.dev (like_trans HLL.out hl4) fin4.num (by omega)
      have hlg4 : LogL W4 g b a z := HLG.out.atd HD.out hatd4
      have h24 : Boxed W4 w.heap.size 29 (.pointer (some ⟨g, 0, none⟩)) := hatd4.kept HD.out H2.out plog_nd
      have kpb : Calls Try.prog 34 #[.pointer (some ⟨g, 0, none⟩), .int .i64 0] W4 fun e w' => ∃ c s, e = .returned (.int .i64 c) ∧ RunD (pubF 0 a) s4 c s ∧ Atd W4 b L4 s4 w' s (pubF 0 a).length := by
        have := hl4.ops
        have := hl4.n
        refine (lpub_any 0 hlg4 hdv4 (by omega) (by omega) ha8 (by omega)).mono ?_
        rintro e w' ⟨c, s, q1, q2, q3⟩
        exact ⟨c, s, q1, q2, q3⟩
      have KPB := hide kpb
      have FIN4 := hide fin4
      have HR4 := hide hrun4
      have HL4 := hide hl4
      have c24 := h24.cell
      clear kpb fin4 hrun4 hatd4 hl4 hdv4 hlg4 h24
      gi_wp2_with (fail)
      refine ⟨trivial, ?_⟩
      gi_at_call 34
      refine (inW (KPB.out)).mono ?_
      rintro e W5 ⟨c, s5, rfl, hrun5, hatd5⟩
      obtain ⟨L5, fin5⟩ := FIN4.out.next hatd5
      clear c24
      rcases hrun5.code with rfl | rfl
      · have y3 : Boxed W5 (w.heap.size + 1) 3 (.int .i64 0) := fin5.i
        have y4' : Boxed (W5.setCell ⟨w.heap.size + 1, 0, none⟩ (.int .i64 (m : Int))) (w.heap.size + 1 + 1) 35 (.int .i64 0) := (heap_set_ne W5 _ 0 _ _ (by omega)).trans fin5.e
        have cy3 := y3.cell
        have zy3 := y3.frozen
        have cy4 := y4'.cell
        have zy4 := y4'.frozen
        have LAST := hide (fin5.last (.int .i64 (m : Int)) (.int .i64 0))
        have RUNF := hide (show RunD (rolF a rs) σ 0 s5 from HR0.out.app0 (HR4.out.app0 hrun5 HL4.out.arms) HLL.out.arms)
        clear y3 y4' fin5 hrun5 hatd5
        gi_wp2
        obtain ⟨d2, i2, e2', hat⟩ := LAST.out
        refine ⟨by simp, .inl ⟨_, _, rfl, run_takeDeferred d2, ?_⟩⟩
        exact ⟨_, results_two rfl _ _ (w.heap.size + 1) (w.heap.size + 1 + 1) _ _ _ _ rfl rfl i2 e2' (fun _ h => loadN h) (fun _ h => loadE h), 0, _, by rw [if_pos rfl, HM.out], RUNF.out, hat.up (by rw [HROL.out]; omega)⟩
      · have y3 : Boxed W5 (w.heap.size + 1) 3 (.int .i64 0) := fin5.i
        have y4' : Boxed (W5.setCell ⟨w.heap.size + 1, 0, none⟩ (.int .i64 0)) (w.heap.size + 1 + 1) 35 (.int .i64 0) := (heap_set_ne W5 _ 0 _ _ (by omega)).trans fin5.e
        have cy3 := y3.cell
        have zy3 := y3.frozen
        have cy4 := y4'.cell
        have zy4 := y4'.frozen
        have LAST := hide (fin5.last (.int .i64 0) (.int .i64 5))
        have RUNF := hide (show RunD (rolF a rs) σ 5 s5 from HR0.out.app0 (HR4.out.app0 hrun5 HL4.out.arms) HLL.out.arms)
        clear y3 y4' fin5 hrun5 hatd5
        gi_wp2
        obtain ⟨d2, i2, e2', hat⟩ := LAST.out
        refine ⟨by simp, .inl ⟨_, _, rfl, run_takeDeferred d2, ?_⟩⟩
        exact ⟨_, results_two rfl _ _ (w.heap.size + 1) (w.heap.size + 1 + 1) _ _ _ _ rfl rfl i2 e2' (fun _ h => loadN h) (fun _ h => loadE h), 5, _, rfl, RUNF.out, hat.up (by rw [HROL.out]; omega)⟩
    · have y3 : Boxed W4 (w.heap.size + 1) 3 (.int .i64 0) := fin4.i
      have y4' : Boxed (W4.setCell ⟨w.heap.size + 1, 0, none⟩ (.int .i64 0)) (w.heap.size + 1 + 1) 35 (.int .i64 0) := (heap_set_ne W4 _ 0 _ _ (by omega)).trans fin4.e
      have cy3 := y3.cell
      have zy3 := y3.frozen
      have cy4 := y4'.cell
      have zy4 := y4'.frozen
      have LAST := hide (fin4.last (.int .i64 0) (.int .i64 5))
      have RUNF := hide (show RunD (rolF a rs) σ 5 s4 from HR0.out.app0 hrun4.app5 HLL.out.arms)
      clear y3 y4' fin4 hrun4 hatd4
      gi_wp2
      obtain ⟨d2, i2, e2', hat⟩ := LAST.out
      refine ⟨by simp, .inl ⟨_, _, rfl, run_takeDeferred d2, ?_⟩⟩
      exact ⟨_, results_two rfl _ _ (w.heap.size + 1) (w.heap.size + 1 + 1) _ _ _ _ rfl rfl i2 e2' (fun _ h => loadN h) (fun _ h => loadE h), 5, _, rfl, RUNF.out, hat.up (by rw [HROL.out]; omega)⟩
  case hstop =>
    rintro D c pre W2 hD hpre ⟨⟨rfl, h3, h4⟩, hgW, L', s', hdW, ⟨hkb, hNL⟩, hrun, hfoot⟩ hK
    have HD := hide hdW
    have HG := hide hgW
    have HF := hide hfoot
    have HR := hide hrun
    have H3 := hide h3
    have H4 := hide h4
    clear h3 h4 hgW hdW hfoot hrun hkb
    gi_wp2
    have hne3 : D ≠ w.heap.size + 1 := by omega
    have hne4 : D ≠ w.heap.size + 1 + 1 := by omega
    refine ⟨by simp, .inl ⟨_, _, rfl, run_takeDeferred hK, ?_⟩⟩
    have hgr : Gr (Foot b L σ) w (W2.putObj D (.deferred none)) := HG.out.trans (Gr.of_grown (X := fun k => k = D) (grownBy_putObj' _ D _) (fun k hk => .inl (by cases hk; rfl))) (fun i h => .inr (by omega))
    obtain ⟨tl, htl⟩ := rolB_pre rs pre.length
    have hlen : (rolF a rs).length = (rolB rs pre.length).length + (tl ++ ([fnA] ++ pubF 0 a)).length := by unfold rolF; rw [htl, List.append_assoc, List.length_append]
    have hrn : RunD (rolF a rs) σ 5 s' := by unfold rolF; rw [htl, List.append_assoc]; exact HR.out.app5
    refine ⟨_, results_two rfl _ _ (w.heap.size + 1) (w.heap.size + 1 + 1) _ _ _ _ rfl rfl ((World.putObj_heap_other (Ne.symm hne3)).trans H3.out) ((World.putObj_heap_other (Ne.symm hne4)).trans H4.out) (fun _ h => loadN h) (fun _ h => loadE h), 5, s', rfl, hrn, hgr, L', HD.out.put_ hK _, HF.out, ?_⟩
    rw [hlen]
    omega
theorem lrollback_any {w : World} {g b a z : Nat} {L : Lay} {σ : St} (rs : List (Nat × List Nat)) (h : LogL w g b a z) (hd : Dv w b L σ) (ha8 : a % 8 = 0) (ha : 64 ≤ a) (hz : 64 ≤ z) (haz : a + z ≤ 64 * σ.n) (hops : σ.ops + 30000000 ≤ 1400000000000) (hnum : leV ((σ.bytes.drop a).take 8) = rs.length) (hrs : RecsAt a z σ.n σ.bytes (a + 64) rs) (hk : rs.length ≤ 4194304) (hne : 1 ≤ rs.length) :
    Calls Try.prog 18 #[.pointer (some ⟨g, 0, none⟩)] w fun e w' => ∃ c s, e = .returned (.tuple #[.int .i64 (if c = 0 then (rs.length : Int) else 0), .int .i64 c]) ∧ RunD (rolF a rs) σ c s ∧ Atd w b L σ w' s (rolF a rs).length := callsIn_wide.1 (lrollback_in rs h hd ha8 ha hz haz hops hnum hrs hk hne)
end Go.Proofs.Ytgfgihpkbbjkfaa
namespace Go.Proofs.Ytgfgihpkbbjkfaa
open Go.RowKit Go.Shelf
set_option linter.unusedVariables false
set_option maxRecDepth 100000

set_option maxHeartbeats 400000 in
theorem lopen_ok {w : World} {b a z : Nat} {L : Lay} {σ : St} (hd : DevL w b L σ) (hn : σ.n ≤ 65536) (ha : 64 ≤ a) (ha6 : a % 64 = 0) (hz : 128 ≤ z) (hz6 : z % 64 = 0) (haz : a + z ≤ 64 * σ.n) :
    Calls Try.prog 24 #[.pointer (some ⟨b, 0, none⟩), .int .i64 (a : Int), .int .i64 (z : Int)] w fun e w' => e = .returned (.tuple #[.pointer (some ⟨w.heap.size, 0, none⟩), .int .i64 0]) ∧ LogL w' w.heap.size b a z ∧ Below w.heap.size w w' := by
  have ksz := psize_any hd hn
  have hN0 : ((64 * σ.n : Nat) : Int) ≠ 0 := by omega
  obtain ⟨N, hN⟩ : ∃ N, 64 * σ.n = N := ⟨_, rfl⟩
  have aI : (64 : Int) ≤ (a : Int) := by omega
  have zI : (128 : Int) ≤ (z : Int) := by omega
  have am : Int.tmod (a : Int) 64 = 0 := by rw [Int.tmod_eq_emod_of_nonneg (by omega)]; omega
  have zm : Int.tmod (z : Int) 64 = 0 := by rw [Int.tmod_eq_emod_of_nonneg (by omega)]; omega
  have wm : IntKind.i64.wrap (((64 * σ.n : Nat) : Int) - (z : Int)) = ((64 * σ.n : Nat) : Int) - (z : Int) := by rw [IntKind.wrap_i64]; omega
  have hc : ¬ ((64 * σ.n : Nat) : Int) - (z : Int) < (a : Int) := by omega
  clear hd
  rw [hN] at hN0 wm hc ksz
  have KSZ := hide ksz
  have hN0b : ((N : Int) == 0) = false := by simpa using hN0
  clear ksz hN
  go_enter Try.func24, Try.ntmps24
  go_wp2_with (go_at_call 27; refine (KSZ.out).mono ?_; rintro e w' ⟨rfl, hw⟩; obtain rfl := hw.symm)
  go_ret2
  exact ⟨rfl, heap_alloc_new _ _, (Below.refl _ _).alloc (Nat.le_refl _) _⟩
/-- A log that Open did not make: nil, or one whose first cell is nil. -/
def NoL (w : World) (v : Value) : Prop := v = .pointer none ∨ ∃ g, v = .pointer (some ⟨g, 0, none⟩) ∧ w.heap[g]? = some (.cells #[.pointer none, .pointer none, .int .i64 0, .int .i64 0] 82 (0, 0))
theorem NoL.below {w w' : World} {v : Value} (h : NoL w v) (hB : Below w.heap.size w w') : NoL w' v := h.imp id (fun ⟨g, h1, h2⟩ => ⟨g, h1, (hB.block g (lt_of_heap h2)).trans h2⟩)
theorem neq_logN (a : Addr) (w : World) : (binOp .neq 29 (.pointer none) (.pointer (some a))).run Try.prog w = .ok (.bool true) w := by
  have h : ∀ d : Nat, (Op.equalIn (d + 1) 29 (.pointer none) (.pointer (some a))).run Try.prog w = .ok false w := fun d => by
    simp [Op.equalIn, run_underlying (show Try.prog.underlying 29 = some (.pointer 82) by kernel_rfl)]
  simp only [binOp]
  simp [Op.equal, Op.maxDepth, h 9999]
theorem no_none {w : World} {v : Value} (h : NoL w v) : Calls Try.prog 51 #[v] w fun e w' => e = .returned (.bool true) ∧ w' = w := by
  rcases h with rfl | ⟨g, rfl, hg⟩
  · go_enter Try.func51, Try.ntmps51
    go_wp2
    go_ret
    exact ⟨rfl, rfl⟩
  · have c0 : w.cell? ⟨g, 0, none⟩ = some (.pointer none) := cell8 hg 0
    have hq := neq_logN ⟨g, 0, none⟩ w
    clear hg
    go_enter Try.func51, Try.ntmps51
    go_wp2
    go_ret
    exact ⟨rfl, rfl⟩
theorem no_number {w : World} {v : Value} (h : NoL w v) : Calls Try.prog 29 #[v] w fun e w' => e = .returned (.tuple #[.int .u64 0, .int .i64 1]) ∧ w' = w := by
  have KN := hide (no_none h)
  rcases h with rfl | ⟨g, rfl, hg⟩ <;>
  · go_enter Try.func29, Try.ntmps29
    go_wp2_with (go_at_call 51; refine (KN.out).mono ?_; rintro e w' ⟨rfl, hw⟩; obtain rfl := hw.symm)
    go_ret2
    exact ⟨rfl, rfl⟩
theorem no_records {w : World} {v : Value} (h : NoL w v) : Calls Try.prog 10 #[v] w fun e w' => e = .returned (.tuple #[.slice none 0 0, .int .i64 1]) ∧ w' = w := by
  have KN := hide (no_number h)
  rcases h with rfl | ⟨g, rfl, hg⟩ <;>
  · go_enter Try.func10, Try.ntmps10
    go_wp2_with (go_at_call 29; refine (KN.out).mono ?_; rintro e w' ⟨rfl, hw⟩; obtain rfl := hw.symm)
    go_ret2
    exact ⟨rfl, rfl⟩
theorem no_write {w : World} {v : Value} (h : NoL w v) (a : Option Addr) (m cap : Nat) : Calls Try.prog 8 #[v, .slice a m cap] w fun e w' => e = .returned (.int .i64 1) ∧ w' = w := by
  have KN := hide (no_number h)
  rcases h with rfl | ⟨g, rfl, hg⟩ <;>
  · go_enter Try.func8, Try.ntmps8
    go_wp2_with (go_at_call 29; refine (KN.out).mono ?_; rintro e w' ⟨rfl, hw⟩; obtain rfl := hw.symm)
    go_ret
    exact ⟨rfl, rfl⟩
end Go.Proofs.Ytgfgihpkbbjkfaa
namespace Go.Proofs.Ytgfgihpkbbjkfaa
open Go.RowKit Go.Shelf
set_option linter.unusedVariables false
set_option maxRecDepth 100000
attribute [local go_sem] Oper.semAt_some

theorem RowC.nil {w : World} {base : Nat} {v : Value} {Rs : List Nat} (h : RowC w base v [] Rs) : ∃ a cap, v = .slice a 0 cap := by
  rcases h.row.2 with ⟨rfl, e⟩ | ⟨gr, cap, cur, rfl, _⟩
  · exact ⟨_, _, rfl⟩
  · exact ⟨_, _, rfl⟩
set_option maxHeartbeats 1000000 in
theorem rollback_early {w : World} {v : Value} {c : Nat} (hv : v = .pointer none ∨ ∃ g, v = .pointer (some ⟨g, 0, none⟩))
    (K : ∀ W, Below w.heap.size w W → Calls Try.prog 10 #[v] W fun e w' => ∃ a cap, e = .returned (.tuple #[.slice a 0 cap, .int .i64 (c : Int)]) ∧ Below W.heap.size W w') :
    Calls Try.prog 18 #[v] w fun e w' => e = .returned (.tuple #[.int .i64 0, .int .i64 (c : Int)]) ∧ Below w.heap.size w w' := by
  refine (callsIn_wide (n := 3)).1 ?_
  have HB0 := hide (show Below w.heap.size w (((w.alloc (.cells #[v] 29)).alloc (.cells #[.int .i64 0] 3)).alloc (.cells #[.int .i64 0] 35)) from (((Below.refl _ w).alloc (Nat.le_refl _) _).alloc (by simp) _).alloc (by simp; omega) _)
  have hsz : (((w.alloc (.cells #[v] 29)).alloc (.cells #[.int .i64 0] 3)).alloc (.cells #[.int .i64 0] 35)).heap.size = w.heap.size + 3 := by simp
  have b2 := ((Boxed.new w 29 v).alloc (.cells #[.int .i64 0] 3)).alloc (.cells #[.int .i64 0] 35)
  have b3 := (Boxed.new (w.alloc (.cells #[v] 29)) 3 (.int .i64 0)).alloc (.cells #[.int .i64 0] 35)
  have b4 := Boxed.new ((w.alloc (.cells #[v] 29)).alloc (.cells #[.int .i64 0] 3)) 35 (.int .i64 0)
  simp only [World.size_alloc] at b3 b4
  have KREC := hide K
  clear K
  rcases hv with rfl | ⟨g, rfl⟩ <;>
  · have c2 := b2.cell
    have B3 := hide b3
    have B4 := hide b4
    clear b2 b3 b4
    refine callsIn_of_wp_marks Try.func18 rfl trivial ?_ rfl
    simp only [Try.ntmps18, List.size_toArray, List.length_cons, List.length_nil, Nat.reduceAdd, Nat.reduceSub, Array.replicate_succ, Array.replicate_zero, List.push_toArray, List.append_toArray, List.nil_append, List.cons_append]
    gi_wp2_with (fail)
    refine ⟨trivial, ?_⟩
    gi_at_call 10
    refine (inW (KREC.out _ HB0.out)).mono ?_
    rintro e W1 ⟨a, cap, rfl, hb1⟩
    have y3 := (hb1.block (w.heap.size + 1) (by omega)).trans B3.out
    have y4 := (hb1.block (w.heap.size + 1 + 1) (by omega)).trans B4.out
    have q3 : Boxed W1 (w.heap.size + 1) 3 (.int .i64 0) := y3
    have q4 : Boxed W1 (w.heap.size + 1 + 1) 35 (.int .i64 0) := y4
    have q3' : Boxed (W1.setCell ⟨w.heap.size + 1, 0, none⟩ (.int .i64 0)) (w.heap.size + 1) 3 (.int .i64 0) := q3.set _
    have q4' : Boxed (W1.setCell ⟨w.heap.size + 1, 0, none⟩ (.int .i64 0)) (w.heap.size + 1 + 1) 35 (.int .i64 0) := (heap_set_ne W1 _ 0 _ _ (by omega)).trans q4
    have cy3 := q3.cell
    have zy3 := q3.frozen
    have cy4 := q4'.cell
    have zy4 := q4'.frozen
    have Y3 := hide q3'
    have Y4 := hide q4'
    have HB1 := hide (bseq HB0.out hb1)
    clear y3 y4 q3 q4 q3' q4' hb1 c2
    by_cases hc : c = 0
    · subst hc
      gi_wp2
      exact ⟨_, results_two rfl _ _ (w.heap.size + 1) (w.heap.size + 1 + 1) _ _ _ _ rfl rfl ((heap_set_ne _ _ 0 _ _ (by omega)).trans Y3.out) (Y4.out.set _) (fun _ h => loadN h) (fun _ h => loadE h), rfl, (HB1.out.setCell (by show w.heap.size ≤ w.heap.size + 1; omega) _).setCell (by show w.heap.size ≤ w.heap.size + 1 + 1; omega) _⟩
    · have hcb : ((c : Int) == 0) = false := by simp; omega
      gi_wp2
      exact ⟨_, results_two rfl _ _ (w.heap.size + 1) (w.heap.size + 1 + 1) _ _ _ _ rfl rfl ((heap_set_ne _ _ 0 _ _ (by omega)).trans Y3.out) (Y4.out.set _) (fun _ h => loadN h) (fun _ h => loadE h), rfl, (HB1.out.setCell (by show w.heap.size ≤ w.heap.size + 1; omega) _).setCell (by show w.heap.size ≤ w.heap.size + 1 + 1; omega) _⟩
theorem lrollback_none {w : World} {g b a z : Nat} {L : Lay} {σ : St} (h : LogL w g b a z) (hd : Dv w b L σ) (ha8 : a % 8 = 0) (hz : 64 ≤ z) (haz : a + z ≤ 64 * σ.n) (hnum : leV ((σ.bytes.drop a).take 8) = 0) :
    Calls Try.prog 18 #[.pointer (some ⟨g, 0, none⟩)] w fun e w' => e = .returned (.tuple #[.int .i64 0, .int .i64 0]) ∧ Below w.heap.size w w' :=
  rollback_early (c := 0) (.inr ⟨g, rfl⟩) (fun W hB => (lrecords_ok [] (h.below hB) (hd.below hB) ha8 hz haz hnum trivial (by simp)).mono (fun e w' hh => by
    obtain ⟨v, Rs, rfl, hrow, hb⟩ := hh
    obtain ⟨a, cap, rfl⟩ := hrow.nil
    exact ⟨a, cap, rfl, hb⟩))
theorem NoL.ptr {w : World} {v : Value} (h : NoL w v) : v = .pointer none ∨ ∃ g, v = .pointer (some ⟨g, 0, none⟩) := h.imp id (fun ⟨g, h, _⟩ => ⟨g, h⟩)
theorem no_rollback {w : World} {v : Value} (h : NoL w v) : Calls Try.prog 18 #[v] w fun e w' => e = .returned (.tuple #[.int .i64 0, .int .i64 1]) ∧ Below w.heap.size w w' :=
  rollback_early (c := 1) h.ptr (fun W hB => (no_records (h.below hB)).mono (fun e w' hh => by
    obtain ⟨rfl, rfl⟩ := hh
    exact ⟨_, _, rfl, Below.refl _ _⟩))
end Go.Proofs.Ytgfgihpkbbjkfaa
namespace Go.Proofs.Ytgfgihpkbbjkfaa
open Go.RowKit Go.Shelf
set_option linter.unusedVariables false
set_option maxRecDepth 100000

def upB (i : Nat) : List Nat := (List.range i).map (· % 256)
theorem upB_succ (i : Nat) : (upB (i + 1)).map B8 = (upB i).map B8 ++ [.int .u8 ((i % 256 : Nat) : Int)] := by
  unfold upB
  rw [List.range_succ]
  simp [B8]
/-- The bytes of made()'s image, k of them set to 0. -/
def zb (k q : Nat) : Nat := if 128 ≤ q ∧ q < 128 + k then 0 else q % 256
def imgZ (k : Nat) : List Nat := (List.range 1024).map (zb k)
theorem index_byteU (g i len cap : Nat) (hi : i < len) (w : World) : (Instr.indexAt 33 (.slice (some ⟨g, 0, none⟩) len cap) (.int .i64 (i : Int))).run Try.prog w = .ok (.pointer (some ⟨g, i, none⟩)) w := by
  have h := index_at (t := 33) (e := 5) (sz := 1) Try.underlying33 (by kernel_rfl) g 0 i len cap hi w
  rwa [Nat.mul_one, Nat.zero_add] at h
set_option maxHeartbeats 1000000 in
theorem umade_any (z : Nat) (w : World) (hz : 128 ≤ z) (hz6 : z % 64 = 0) (hz8 : z ≤ 896) : Calls Try.prog 5 #[.int .i64 (z : Int)] w fun e w' => ∃ b L gl, e = .returned (.tuple #[.pointer (some ⟨b, 0, none⟩), .pointer (some ⟨gl, 0, none⟩), .bool true]) ∧ DevL w' b L (fromD 16 (imgZ 8)) ∧ L.N = 0 ∧ (∀ k, Foot b L (fromD 16 (imgZ 8)) k → w.heap.size ≤ k) ∧ LogL w' gl b 128 z ∧ Below w.heap.size w w' := by
  obtain ⟨i0, hi0, hz0, hz1, hz2⟩ := infoU8
  go_enter Try.func5, Try.ntmps5
  go_wp2
  go_loopw [5, 6] (fun lv iv wr => ∃ i : Nat, iv = .int .i64 (i : Int) ∧ i ≤ 1024 ∧ wr.ownsRow w.heap.size 5 1 lv i ((upB i).map B8) ∧ Below w.heap.size w wr) (fun lv iv _ => (1024 - (intOf iv).toNat))
  case atStart => exact ⟨0, rfl, Nat.zero_le _, ⟨rfl, .inl ⟨rfl, rfl⟩⟩, Below.refl _ _⟩
  case round =>
    obtain ⟨i, rfl, hi, hown, hB⟩ := hrel
    by_cases hlt : i < 1024
    · have iI : (i : Int) < 1024 := by omega
      have hcv : IntKind.u8.wrap (i : Int) = ((i % 256 : Nat) : Int) := by
        show (i : Int) % 256 = _
        omega
      have hA : Below wr.heap.size wr (wr.alloc (.cells #[.int .u8 ((i % 256 : Nat) : Int)] 5)) := (Below.refl _ wr).alloc (Nat.le_refl _) _
      have ho2 : (wr.alloc (.cells #[.int .u8 ((i % 256 : Nat) : Int)] 5)).ownsRow w.heap.size 5 1 u5 i ((upB i).map B8) := ownsRow_of_block hown (fun g hg => (by obtain ⟨c, hc⟩ := own_type hown hg; exact hA.block g (lt_of_heap hc)))
      have hsz6 : w.heap.size ≤ (wr.alloc (.cells #[.int .u8 ((i % 256 : Nat) : Int)] 5)).heap.size := (bseq hB hA).size
      have HO2 := hide ho2
      have HB := hide (bseq hB hA)
      clear ho2 hown hB hA
      go_wp2_with (at_builtin; refine wpList_append_own_at _ rfl _ _ 33 rfl w.heap.size 5 i0 (.int .u8 0) 1 1 Try.underlying33 hi0 hz0 hz1 hz2 rfl (by decide) u5 i ((upB i).map B8) rfl HO2.out ⟨wr.heap.size, 0, none⟩ 1 1 [.int .u8 ((i % 256 : Nat) : Int)] rfl rfl (cell_oneU wr _ _) (by simp [Value.oneCell']) (by unfold maxLen; omega) (by omega) hsz6 ?_; intro v1 x1 ho3 hg3 hnn hat; clear hnn hat; have HO3 := hide ho3; have HG3 := hide hg3; clear ho3 hg3)
      refine ⟨⟨i + 1, int_congrP (by omega), by omega, by rw [upB_succ]; exact HO3.out, bel_of_grown HB.out HO2.out HG3.out⟩, by simp [intOf]; omega⟩
    · obtain rfl : i = 1024 := by omega
      obtain ⟨g, cp, cur, rfl, hgb, hgr, hcp, hc⟩ : ∃ g cp cur, u5 = .slice (some ⟨g, 0, none⟩) 1024 cp ∧ w.heap.size ≤ g ∧ wr.heap[g]? = some (.cells cur 5 (0, 0)) ∧ 1024 ≤ cp ∧ ∀ q, q < 1024 → cur[q]? = some (B8 (zb 0 q)) := by
        rcases hown.2 with ⟨_, e⟩ | ⟨g, cp, cur, e, h1, h2, h3, h4, h5, h6⟩
        · omega
        · refine ⟨g, cp, cur, e, h1, h2, by omega, fun q hq => ?_⟩
          have h7 : (cur.toList.take (1024 * 1))[q]? = some (B8 (zb 0 q)) := by
            rw [h6]
            unfold upB zb
            rw [List.getElem?_map, List.getElem?_map, List.getElem?_range hq, if_neg (by omega)]
            rfl
          rw [List.getElem?_take, if_pos (by omega), Array.getElem?_toList] at h7
          exact h7
      have HB := hide hB
      have HGR := hide hgr
      have HC := hide hc
      clear hown hB hgr hc hi hlt
      go_wp2
      go_loopw [7] (fun iv wr => ∃ (k : Nat) (c : Array Value), iv = .int .i64 ((128 + k : Nat) : Int) ∧ k ≤ 8 ∧ wr.heap[g]? = some (.cells c 5 (0, 0)) ∧ (∀ q, q < 1024 → c[q]? = some (B8 (zb k q))) ∧ Below w.heap.size w wr) (fun iv _ => (136 - (intOf iv).toNat))
      case atStart => exact ⟨0, cur, rfl, Nat.zero_le _, HGR.out, HC.out, HB.out⟩
      case round =>
        obtain ⟨k, c, rfl, hk, hg2, hc2, hB2⟩ := hrel
        by_cases hlt : k < 8
        · obtain ⟨p, hp⟩ : ∃ p, 128 + k = p := ⟨_, rfl⟩
          rw [hp]
          have pI : (p : Int) < 136 := by omega
          have ib := index_byteU g p 1024 cp (by omega) wr
          have cq : wr.cell? ⟨g, p, none⟩ = some (B8 (zb k p)) := (cell8 hg2 p).trans (hc2 p (by omega))
          have zq := froz8 hg2 p
          have HSET := hide (heap_setCell_same wr g p c 5 (.int .u8 0) hg2)
          have HC2 := hide hc2
          have HB2 := hide (hB2.setCell (p := ⟨g, p, none⟩) hgb (.int .u8 0))
          have HPK := hide hp
          clear hg2 hc2 hB2 hp
          go_wp2
          refine ⟨⟨k + 1, _, int_congrP (by have := HPK.out; omega), by omega, HSET.out, fun q hq => ?_, HB2.out⟩, by simp [intOf]; omega⟩
          have hp := HPK.out
          have h1 := HC2.out p (by omega)
          have h2 : p < c.size := (Array.getElem?_eq_some_iff.1 h1).1
          rw [Array.getElem?_setIfInBounds]
          by_cases e : p = q
          · subst e
            rw [if_pos rfl, if_pos h2]
            unfold zb
            rw [if_pos (by omega)]
            rfl
          · rw [if_neg e, HC2.out q hq]
            unfold zb
            by_cases h3 : 128 ≤ q ∧ q < 128 + k
            · rw [if_pos h3, if_pos (by omega)]
            · rw [if_neg h3, if_neg (by omega)]
        · obtain rfl : k = 8 := by omega
          have hseg : Seg wr g 0 (imgZ 8) := fun i x hx => by
            have hi : i < 1024 := by have := (List.getElem?_eq_some_iff.1 hx).1; simpa [imgZ] using this
            unfold imgZ at hx
            rw [List.getElem?_map, List.getElem?_range hi] at hx
            have hx' : zb 8 i = x := by simpa using hx
            rw [Nat.zero_add]
            refine ⟨(cell8 hg2 i).trans (by rw [hc2 i hi, hx']; rfl), ?_⟩
            rw [← hx']
            unfold zb
            split <;> omega
          have KF := hide (pfrom_any wr g 0 1024 cp 16 (imgZ 8) hseg (lt_of_heap hg2) (by simp [imgZ]) rfl (by omega) (by omega) (fun x hx => by
            unfold imgZ at hx
            obtain ⟨q, _, rfl⟩ := List.mem_map.1 hx
            unfold zb
            split <;> omega) hcp)
          have HB2 := hide hB2
          clear hg2 hc2 hB2 hseg
          go_wp2_with (first
            | (go_at_call 23; refine (KF.out).mono ?_; rintro e W1 ⟨b, L, rfl, hdev, hft, hb, hN⟩; have KO := hide (show Calls Try.prog 24 #[.pointer (some ⟨b, 0, none⟩), .int .i64 128, .int .i64 (z : Int)] W1 fun e w' => e = .returned (.tuple #[.pointer (some ⟨W1.heap.size, 0, none⟩), .int .i64 0]) ∧ LogL w' W1.heap.size b 128 z ∧ Below W1.heap.size W1 w' from lopen_ok (a := 128) hdev (by show 16 ≤ 65536; omega) (by omega) (by omega) hz hz6 (by show 128 + z ≤ 64 * 16; omega)); have HDEV := hide hdev; have HN := hide hN; have HFT := hide (fun k hk => Nat.le_trans HB2.out.size (hft k hk)); have HB3 := hide (bseq HB2.out hb); clear hdev hft hb hN)
            | (go_at_call 24; refine (KO.out).mono ?_; rintro e W2 ⟨rfl, hlog, hb2⟩; have HLOG := hide hlog; have HB4 := hide hb2; clear hlog hb2))
          first | go_ret3 | go_ret2 | skip
          exact ⟨b, L, _, rfl, HDEV.out.below HB4.out, HN.out, HFT.out, HLOG.out, bseq HB3.out HB4.out⟩
end Go.Proofs.Ytgfgihpkbbjkfaa
namespace Go.Proofs.Ytgfgihpkbbjkfaa
open Go.RowKit Go.Shelf
set_option linter.unusedVariables false
set_option maxRecDepth 100000

theorem splice_at {B c : List Nat} {at_ : Nat} (h : at_ + c.length ≤ B.length) : ((splice B at_ c).drop at_).take c.length = c := by
  refine List.ext_getElem? fun i => ?_
  rw [List.getElem?_take]
  split
  · rw [List.getElem?_drop, splice_get _ _ _ _ h, if_neg (by omega), if_pos (by omega)]
    congr 1
    omega
  · rw [List.getElem?_eq_none (by omega)]
/-- The records of extents. -/
def recL (B : List Nat) (xs : List (Int × Int)) : List (Nat × List Nat) := xs.map (fun x => (x.1.toNat, oldOf B x))
theorem recL_len (B : List Nat) (xs : List (Int × Int)) : (recL B xs).length = xs.length := by simp [recL]
theorem may_of_fine {a z N : Nat} {x : Int × Int} (h : Fine a z N x) : mayV a z N x.1 x.2 = true := by
  obtain ⟨h1, h2, h3, h4⟩ := h
  unfold mayV wthV
  rcases h4 with h4 | h4
  · rw [decide_eq_true (show 64 ≤ x.1 ∧ 1 ≤ x.2 ∧ x.2 ≤ (a : Int) - x.1 by omega)]
    rfl
  · rw [decide_eq_true (show ((a + z : Nat) : Int) ≤ x.1 ∧ 1 ≤ x.2 ∧ x.2 ≤ ((64 * N : Nat) : Int) - x.1 by omega)]
    exact Bool.or_true _
theorem recs_at {a z N : Nat} {B C : List Nat} (hB : B.length = 64 * N) (hN : N ≤ 65536) : ∀ (xs : List (Int × Int)) (at_ : Nat), (∀ x ∈ xs, Fine a z N x) → (C.drop at_).take (recsB B xs).length = recsB B xs → at_ + (recsB B xs).length ≤ a + z → RecsAt a z N C at_ (recL B xs)
  | [], at_, _, _, _ => trivial
  | x :: t, at_, hx, hc, hl => by
    have e : recsB B (x :: t) = recOf B x ++ recsB B t := rfl
    rw [e, List.length_append] at hc hl
    have hf := hx x (by simp)
    have ho := fine_old hf hB
    have hm := may_of_fine hf
    obtain ⟨h1, h2, h3, h4⟩ := hf
    have hc1 : (C.drop at_).take (recOf B x).length = recOf B x := by
      have := congrArg (List.take (recOf B x).length) hc
      rw [List.take_take, Nat.min_eq_left (by omega), List.take_left] at this
      exact this
    have hc2 : (C.drop (at_ + (recOf B x).length)).take (recsB B t).length = recsB B t := by
      have := congrArg (List.drop (recOf B x).length) hc
      rw [List.drop_take, List.drop_left, List.drop_drop, Nat.add_sub_cancel_left] at this
      exact this
    have e1 : ((x.1.toNat : Nat) : Int) = x.1 := by omega
    have e2 : (((oldOf B x).length : Nat) : Int) = x.2 := by rw [ho]; omega
    refine ⟨hc1, by show 1 ≤ (oldOf B x).length; omega, by show x.1.toNat ≤ 4194304; omega, ?_, by show at_ + (recOf B x).length ≤ a + z; omega, recs_at hB hN t _ (fun y hy => hx y (by simp [hy])) hc2 (by show at_ + (recOf B x).length + (recsB B t).length ≤ a + z; omega)⟩
    show mayV a z N ((x.1.toNat : Nat) : Int) (((oldOf B x).length : Nat) : Int) = true
    rw [e1, e2]
    exact hm
theorem RecsAt.out {a z N : Nat} {B C : List Nat} : ∀ (rs : List (Nat × List Nat)) (at_ : Nat), (∀ p n, at_ ≤ p → p + n ≤ a + z → (C.drop p).take n = (B.drop p).take n) → RecsAt a z N B at_ rs → RecsAt a z N C at_ rs
  | [], _, _, _ => trivial
  | r :: t, at_, h, ⟨h1, h2, h3, h4, h5, h6⟩ => ⟨(h at_ _ (Nat.le_refl _) h5).trans h1, h2, h3, h4, h5, RecsAt.out t _ (fun p n hp hn => h p n (by omega) hn) h6⟩
/-- What a Write leaves that all was done. -/
structure WrS (a z N : Nat) (B : List Nat) (xs : List (Int × Int)) (σ s : St) : Prop where
  like : LikeG σ s (wrF B a xs).length
  few : (wrF B a xs).length ≤ 6000000
  bytes : s.bytes = splice (splice B (a + 64) (recsB B xs)) a (leB 8 xs.length)
  num : leV ((s.bytes.drop a).take 8) = xs.length
  recs : RecsAt a z N s.bytes (a + 64) (recL B xs)
theorem wr_after {a z N : Nat} {B : List Nat} {xs : List (Int × Int)} {σ : St} (hσ : σ.Ok) (hN : σ.n = N) (hB : B = σ.bytes) (hx : ∀ y ∈ xs, Fine a z N y) (hroom : (recsB B xs).length ≤ z - 64) (hz : 64 ≤ z) (haz : a + z ≤ 64 * N) (hops : σ.ops + 30000000 ≤ 1400000000000) (hml : xs.length ≤ 4194304) : WrS a z N B xs σ (acts (wrF B a xs) σ) := by
  have hmx := hσ.max
  have hB64 : B.length = 64 * N := by rw [hB, hσ.len, hN]
  obtain ⟨R, hf⟩ := Recs.whole hσ hN hB hx hroom hz haz (by omega)
  have hr := R.like.ops
  have hn := R.like.n
  have r1 := rng_few (at_ := a + 64) (n := (recsB B xs).length) (by omega)
  have p1 := pub_few (v := xs.length) (at_ := a) (by omega)
  have l1 := acts_like (N := N) (rngF (a + 64) (recsB B xs).length) (acts (recsF B (a + 64) xs) σ) (rng_good _ _) R.like.ok (hn.trans hN) (by omega)
  have b1 := rng_bytes (a + 64) (recsB B xs).length (acts (recsF B (a + 64) xs) σ)
  have o1 := l1.ops
  have n1 := l1.n
  have l2 := acts_like (N := N) (pubF xs.length a) (acts (rngF (a + 64) (recsB B xs).length) (acts (recsF B (a + 64) xs) σ)) (pub_good (by omega) (by omega)) l1.ok (n1.trans (hn.trans hN)) (by omega)
  have b2 := pub_bytes (v := xs.length) (at_ := a) l1.ok (by rw [n1, hn, hN]; omega) (by omega)
  have e : acts (wrF B a xs) σ = acts (pubF xs.length a) (acts (rngF (a + 64) (recsB B xs).length) (acts (recsF B (a + 64) xs) σ)) := by
    unfold wrF
    rw [acts_append, acts_append]
  have hbytes : (acts (wrF B a xs) σ).bytes = splice (splice B (a + 64) (recsB B xs)) a (leB 8 xs.length) := by rw [e, b2, b1, R.bytes]
  have hs1 : (splice B (a + 64) (recsB B xs)).length = B.length := splice_len _ _ _ (by omega)
  have h8 : (leB 8 xs.length).length = 8 := leB_length 8 _
  refine ⟨?_, ?_, hbytes, ?_, ?_⟩
  · rw [e]
    unfold wrF
    rw [List.length_append, List.length_append]
    exact like_trans R.like (like_trans l1 l2)
  · unfold wrF
    rw [List.length_append, List.length_append]
    omega
  · rw [hbytes]
    have := splice_at (B := splice B (a + 64) (recsB B xs)) (c := leB 8 xs.length) (at_ := a) (by omega)
    rw [h8] at this
    rw [this]
    exact leV_of (by omega)
  · refine recs_at hB64 (by omega) xs _ hx ?_ (by omega)
    rw [hbytes, splice_out (by omega) (by omega)]
    exact splice_at (by omega)
/-- What is brought back, from behind. -/
def rolS (rs : List (Nat × List Nat)) (B : List Nat) : List Nat := rs.foldl (fun C r => splice C r.1 r.2) B
theorem bck_like {N : Nat} {r : Nat × List Nat} {σ : St} (hN : N ≤ 65536) (h : Bk1 N r) (hok : σ.Ok) (hn : σ.n = N) (hops : σ.ops + 20000000 ≤ 1400000000000) : LikeG σ (acts (bckF r.1 r.2) σ) (bckF r.1 r.2).length ∧ (acts (bckF r.1 r.2) σ).bytes = splice σ.bytes r.1 r.2 ∧ (bckF r.1 r.2).length ≤ 2 * (recB r.1 r.2).length := by
  obtain ⟨h1, h2, h3⟩ := h
  have k := bck_le (xn := r.1) (old := r.2) (by omega)
  have hl := recB_len r.1 r.2
  have hp : padN r.2.length ≤ 8 := by unfold padN; omega
  refine ⟨acts_like (N := N) _ σ ?_ hok hn (by omega), bck_bytes h3 hok (by omega) (by omega), k⟩
  have := rolB_good hN (rs := [r]) (fun q hq => by rw [List.mem_singleton.1 hq]; exact ⟨h1, h2, h3⟩) 1
  simpa [rolB] using this
theorem rol_like {N : Nat} (hN : N ≤ 65536) : ∀ (rs : List (Nat × List Nat)) (σ : St), (∀ r ∈ rs, Bk1 N r) → σ.Ok → σ.n = N → σ.ops + 2 * recsLen rs + 20000000 ≤ 1400000000000 → LikeG σ (acts (rs.flatMap (fun r => bckF r.1 r.2)) σ) (rs.flatMap (fun r => bckF r.1 r.2)).length ∧ (acts (rs.flatMap (fun r => bckF r.1 r.2)) σ).bytes = rolS rs σ.bytes
  | [], σ, _, hok, _, _ => ⟨like_refl hok, rfl⟩
  | r :: t, σ, h, hok, hn, ho => by
    have e : recsLen (r :: t) = (recB r.1 r.2).length + recsLen t := by simp [recsLen]
    obtain ⟨a1, a2, a3⟩ := bck_like hN (h r (by simp)) hok hn (by omega)
    have a4 := a1.ops
    obtain ⟨b1, b2⟩ := rol_like hN t (acts (bckF r.1 r.2) σ) (fun q hq => h q (by simp [hq])) a1.ok (a1.n.trans hn) (by omega)
    rw [List.flatMap_cons, acts_append, List.length_append]
    exact ⟨like_trans a1 b1, by rw [b2, a2]; rfl⟩
theorem rolS_len : ∀ (rs : List (Nat × List Nat)) (B : List Nat), (∀ r ∈ rs, r.1 + r.2.length ≤ B.length) → (rolS rs B).length = B.length
  | [], B, _ => rfl
  | r :: t, B, h => by
    have e := splice_len B r.2 r.1 (h r (by simp))
    show (rolS t (splice B r.1 r.2)).length = _
    rw [rolS_len t _ (fun q hq => by rw [e]; exact h q (by simp [hq])), e]
/-- What a Rollback leaves that all was done. -/
structure RoS (a : Nat) (rs : List (Nat × List Nat)) (σ s : St) : Prop where
  like : LikeG σ s (rolF a rs).length
  few : (rolF a rs).length ≤ 20000000
  bytes : s.bytes = splice (rolS rs.reverse σ.bytes) a (leB 8 0)
  num : leV ((s.bytes.drop a).take 8) = 0
theorem ro_after {a z N : Nat} {rs : List (Nat × List Nat)} {σ : St} (hσ : σ.Ok) (hN : σ.n = N) (ha : 64 ≤ a) (hz : 64 ≤ z) (haz : a + z ≤ 64 * N) (hrs : RecsAt a z N σ.bytes (a + 64) rs) (hops : σ.ops + 50000000 ≤ 1400000000000) : RoS a rs σ (acts (rolF a rs) σ) := by
  have hmx := hσ.max
  have hbk := RecsAt.each haz ha hσ.byte rs _ hrs
  have htot := RecsAt.total rs _ (by omega) hrs
  have hbr : ∀ r ∈ rs.reverse, Bk1 N r := fun r hr => hbk r (List.mem_reverse.1 hr)
  have hN' : N ≤ 65536 := by omega
  have erl : recsLen rs.reverse = recsLen rs := recsLen_rev rs
  obtain ⟨l0, b0⟩ := rol_like hN' rs.reverse σ hbr hσ hN (by omega)
  have f0 := flat_le hN' rs.reverse hbr
  have o0 := l0.ops
  have n0 := l0.n
  rw [← rolB_all] at l0 b0 f0 o0 n0
  have l1 := acts_like (N := N) [fnA] (acts (rolB rs rs.length) σ) (fun f hf => by rw [List.mem_singleton.1 hf]; exact fn_good) l0.ok (n0.trans hN) (by simp; omega)
  have b1 := fn_bytes (acts (rolB rs rs.length) σ)
  have o1 := l1.ops
  have n1 := l1.n
  have hl1 : ([fnA] : List (St → St)).length = 1 := rfl
  have p1 := pub_few (v := 0) (at_ := a) (by omega)
  have l2 := acts_like (N := N) (pubF 0 a) (acts [fnA] (acts (rolB rs rs.length) σ)) (pub_good (by omega) hN') l1.ok (n1.trans (n0.trans hN)) (by omega)
  have b2 := pub_bytes (v := 0) (at_ := a) l1.ok (by rw [n1, n0, hN]; omega) (by omega)
  have e : acts (rolF a rs) σ = acts (pubF 0 a) (acts [fnA] (acts (rolB rs rs.length) σ)) := by
    unfold rolF
    rw [acts_append, acts_append]
  have hbytes : (acts (rolF a rs) σ).bytes = splice (rolS rs.reverse σ.bytes) a (leB 8 0) := by rw [e, b2, b1, b0]
  have h8 : (leB 8 0).length = 8 := leB_length 8 _
  have hrl : (rolS rs.reverse σ.bytes).length = 64 * N := by
    rw [rolS_len _ _ (fun r hr => by rw [hσ.len, hN]; exact (hbr r hr).2.1), hσ.len, hN]
  refine ⟨?_, ?_, hbytes, ?_⟩
  · rw [e]
    unfold rolF
    rw [List.length_append, List.length_append]
    exact like_trans l0 (like_trans l1 l2)
  · unfold rolF
    rw [List.length_append, List.length_append]
    omega
  · rw [hbytes]
    have := splice_at (B := rolS rs.reverse σ.bytes) (c := leB 8 0) (at_ := a) (by omega)
    rw [h8] at this
    rw [this]
    exact leV_of (by omega)
end Go.Proofs.Ytgfgihpkbbjkfaa
namespace Go.Proofs.Ytgfgihpkbbjkfaa
open Go.RowKit Go.Shelf
set_option linter.unusedVariables false
set_option maxRecDepth 100000

/-- A log at block gl on the device at block b, all of whose blocks lie behind B0; no loss waits. -/
structure Lg (B0 : Nat) (w : World) (gl b a z : Nat) (L : Lay) (σ : St) : Prop where
  dv : Dv w b L σ
  log : LogL w gl b a z
  calm : σ.arms = []
  far : ∀ k, Foot b L σ k → B0 ≤ k
  big : B0 ≤ w.heap.size
/-- What a step keeps: blocks of other types, and all that lay ahead of B0. -/
structure Kp8 (B0 : Nat) (w w' : World) : Prop where
  below : Below B0 w w'
  keep : ∀ (k : Nat) (c : Array Value) (t : TypeId) (f : Nat × Nat), w.heap[k]? = some (.cells c t f) → NDt t → w'.heap[k]? = some (.cells c t f)
section
variable {B0 gl b a z : Nat} {w w' w'' : World} {L : Lay} {σ s : St}
theorem Kp8.of_below (h : Below w.heap.size w w') (hB : B0 ≤ w.heap.size) : Kp8 B0 w w' :=
  ⟨⟨h.os, h.tape, h.output, h.size, fun k hk => h.block k (by omega)⟩, fun k c t f hc _ => (h.block k (lt_of_heap hc)).trans hc⟩
theorem Kp8.trans (h : Kp8 B0 w w') (k : Kp8 B0 w' w'') : Kp8 B0 w w'' :=
  ⟨⟨k.below.os.trans h.below.os, k.below.tape.trans h.below.tape, k.below.output.trans h.below.output, Nat.le_trans h.below.size k.below.size, fun i hi => (k.below.block i hi).trans (h.below.block i hi)⟩, fun i c t f hc ht => k.keep i c t f (h.keep i c t f hc ht) ht⟩
theorem Kp8.size (h : Kp8 B0 w w') : w.heap.size ≤ w'.heap.size := h.below.size
theorem Kp8.of_atd {m : Nat} (ha : Atd w b L σ w' s m) (h : Lg B0 w gl b a z L σ) : Kp8 B0 w w' :=
  ⟨⟨ha.1.1, ha.1.2.1, ha.1.2.2.1, ha.1.2.2.2.1, fun k hk => ha.1.block (by have := h.big; omega) (fun hf => by have := h.far k hf; omega)⟩, fun k c t f hc ht => ha.kept h.dv.dev hc ht⟩
theorem Lg.below (h : Lg B0 w gl b a z L σ) (hB : Below w.heap.size w w') : Lg B0 w' gl b a z L σ := ⟨h.dv.below hB, h.log.below hB, h.calm, h.far, Nat.le_trans h.big hB.size⟩
/-- Which blocks a step may change, and which are the device's then. -/
structure Stp (w : World) (b : Nat) (L : Lay) (σ : St) (w' : World) (L' : Lay) (s : St) : Prop where
  gr : Gr (Foot b L σ) w w'
  ft : ∀ k, Foot b L' s k → Foot b L σ k ∨ w.heap.size ≤ k
theorem Stp.out {k : Nat} {L' : Lay} (h : Stp w b L σ w' L' s) (hk : k < w.heap.size) (hn : ¬ Foot b L σ k) : w'.heap[k]? = w.heap[k]? ∧ ¬ Foot b L' s k :=
  ⟨h.gr.block hk hn, fun hf => (h.ft k hf).elim hn (by omega)⟩
theorem Lg.went {m : Nat} (h : Lg B0 w gl b a z L σ) (ha : Atd w b L σ w' s m) (hl : LikeG σ s m) (hlt : σ.ops + m < 1400000000000) : ∃ L', Lg B0 w' gl b a z L' s ∧ Stp w b L σ w' L' s := by
  obtain ⟨L', hd, hg, hf, hN⟩ := h.dv.went ha hl hlt
  exact ⟨L', ⟨hd, h.log.atd h.dv.dev ha, hl.arms.trans h.calm, fun k hk => (hf k hk).elim (h.far k) (fun hk => Nat.le_trans h.big hk), Nat.le_trans h.big ha.size⟩, hg, hf⟩
/-- Where a log may lie. -/
structure At8 (a z N : Nat) : Prop where
  a8 : a % 8 = 0
  a64 : 64 ≤ a
  z64 : 64 ≤ z
  az : a + z ≤ 64 * N
theorem lg_write {m cap : Nat} {ea : Option Addr} {xs : List (Int × Int)} (h : Lg B0 w gl b a z L σ) (hp : At8 a z σ.n) (hops : σ.ops + 30000000 ≤ 1400000000000) (hnum : leV ((σ.bytes.drop a).take 8) = 0) (he : SlE w ea xs) (hm : xs.length = m) (hm1 : 1 ≤ m) (hml : m ≤ 4194304) (hok : (needX a z σ.n xs).2 = 0) :
    Calls Try.prog 8 #[.pointer (some ⟨gl, 0, none⟩), .slice ea m cap] w fun e w' => e = .returned (.int .i64 0) ∧ ∃ L' s, Lg B0 w' gl b a z L' s ∧ WrS a z σ.n σ.bytes xs σ s ∧ Kp8 B0 w w' ∧ Stp w b L σ w' L' s := by
  have hmx := h.dv.ok.max
  obtain ⟨hfine, hnd, hroom⟩ := need_good h.dv.ok.len hp.a64 hp.z64 hp.az hmx hok
  have W := wr_after h.dv.ok rfl rfl hfine hroom hp.z64 hp.az hops (by omega)
  refine (lwrite_ok h.log h.dv hp.a8 hp.a64 hp.z64 hp.az hops hnum he hm hm1 hml hok).mono ?_
  rintro e w' ⟨c, s, rfl, hr, ha⟩
  obtain ⟨rfl, rfl⟩ := hr.calm h.calm
  have hf := W.few
  obtain ⟨L', hL, hS⟩ := h.went ha W.like (by omega)
  exact ⟨rfl, L', _, hL, W, Kp8.of_atd ha h, hS⟩
theorem lg_rollback (rs : List (Nat × List Nat)) (h : Lg B0 w gl b a z L σ) (hp : At8 a z σ.n) (hops : σ.ops + 50000000 ≤ 1400000000000) (hnum : leV ((σ.bytes.drop a).take 8) = rs.length) (hrs : RecsAt a z σ.n σ.bytes (a + 64) rs) (hk : rs.length ≤ 4194304) (hne : 1 ≤ rs.length) :
    Calls Try.prog 18 #[.pointer (some ⟨gl, 0, none⟩)] w fun e w' => e = .returned (.tuple #[.int .i64 (rs.length : Int), .int .i64 0]) ∧ ∃ L' s, Lg B0 w' gl b a z L' s ∧ RoS a rs σ s ∧ Kp8 B0 w w' ∧ Stp w b L σ w' L' s := by
  have W := ro_after h.dv.ok rfl hp.a64 hp.z64 hp.az hrs hops
  refine (lrollback_any rs h.log h.dv hp.a8 hp.a64 hp.z64 hp.az (by omega) hnum hrs hk hne).mono ?_
  rintro e w' ⟨c, s, rfl, hr, ha⟩
  obtain ⟨rfl, rfl⟩ := hr.calm h.calm
  have hf := W.few
  obtain ⟨L', hL, hS⟩ := h.went ha W.like (by omega)
  exact ⟨rfl, L', _, hL, W, Kp8.of_atd ha h, hS⟩
/-- A store of few bytes. -/
theorem lg_store {ad : Addr} {bs : List Nat} (at_ cap : Nat) (h : Lg B0 w gl b a z L σ) (hops : σ.ops + 30000000 ≤ 1400000000000) (hsl : Sl w (some ad) bs) (hb : ∀ x ∈ bs, x < 256) (hcap : bs.length ≤ cap) (hlen : at_ + bs.length ≤ 64 * σ.n) {c : Array Value} {t : TypeId} {f : Nat × Nat} (had : w.heap[ad.block]? = some (.cells c t f)) (ht : NDt t) :
    Calls Try.prog 20 #[.pointer (some ⟨b, 0, none⟩), .int .i64 (at_ : Int), .slice (some ad) bs.length cap] w fun e w' => e = .returned (.int .i64 0) ∧ ∃ L' s, Lg B0 w' gl b a z L' s ∧ LikeG σ s (wordsOf at_ bs.length).length ∧ s.bytes = splice σ.bytes at_ bs ∧ Kp8 B0 w w' ∧ Stp w b L σ w' L' s := by
  have hmx := h.dv.ok.max
  have hwl := wordsOf_few (at_ := at_) (n := bs.length) (by omega)
  have hl := acts_like (N := σ.n) (wds bs at_ (wordsOf at_ bs.length)) σ (wds_good hb (wordsOf_lt (m := σ.n) (by omega) (by omega))) h.dv.ok rfl (by rw [wds_len]; omega)
  rw [wds_len] at hl
  refine (dv_store at_ cap h.dv (by omega) hsl hcap hlen (fun ad' e => by cases e; exact ⟨lt_of_heap had, foot_nd h.dv.dev had ht⟩)).mono ?_
  rintro e w' ⟨c, s, rfl, hr, ha⟩
  obtain ⟨rfl, rfl⟩ := hr.calm h.calm
  obtain ⟨L', hL, hS⟩ := h.went ha hl (by omega)
  refine ⟨rfl, L', _, hL, hl, ?_, Kp8.of_atd ha h, hS⟩
  rw [wds_acts, writeG_bytes hb h.dv.ok hlen (by omega)]
end
end Go.Proofs.Ytgfgihpkbbjkfaa
namespace Go.Proofs.Ytgfgihpkbbjkfaa
open Go.RowKit Go.Shelf
set_option linter.unusedVariables false
set_option maxRecDepth 100000

theorem imgZ_len : (imgZ 8).length = 1024 := by simp [imgZ]
theorem imgZ_lt : ∀ x ∈ imgZ 8, x < 256 := by
  intro x hx
  unfold imgZ at hx
  obtain ⟨q, _, rfl⟩ := List.mem_map.1 hx
  unfold zb
  split <;> omega
theorem imgZ_get {q : Nat} (h : q < 1024) : (imgZ 8)[q]? = some (zb 8 q) := by
  unfold imgZ
  rw [List.getElem?_map, List.getElem?_range h]
  rfl
theorem imgZ_num : leV (((imgZ 8).drop 128).take 8) = 0 := by
  have h : ((imgZ 8).drop 128).take 8 = leB 8 0 := by
    refine List.ext_getElem? fun i => ?_
    rw [List.getElem?_take]
    split
    · rw [List.getElem?_drop, imgZ_get (by omega), leB_get 8 0 i (by omega)]
      unfold zb
      rw [if_pos (by omega)]
      simp
    · rw [List.getElem?_eq_none (by rw [leB_length]; omega)]
  rw [h]
  exact leV_of (by omega)
theorem imgZ_olds : ((imgZ 8).drop 64).take 4 = [64, 65, 66, 67] := by
  refine List.ext_getElem? fun i => ?_
  rw [List.getElem?_take]
  split
  · rename_i h
    rw [List.getElem?_drop, imgZ_get (by omega)]
    unfold zb
    rw [if_neg (by omega)]
    match i, h with
    | 0, _ => rfl
    | 1, _ => rfl
    | 2, _ => rfl
    | 3, _ => rfl
  · rw [List.getElem?_eq_none (by simp; omega)]
theorem lg_made {w W : World} {b gl z : Nat} {L : Lay} (hd : DevL W b L (fromD 16 (imgZ 8))) (hN : L.N = 0) (hf : ∀ k, Foot b L (fromD 16 (imgZ 8)) k → w.heap.size ≤ k) (hl : LogL W gl b 128 z) (hB : Below w.heap.size w W) : ∃ σ, Lg w.heap.size W gl b 128 z L σ ∧ σ.n = 16 ∧ σ.ops = 0 ∧ σ.bytes = imgZ 8 :=
  ⟨fromD 16 (imgZ 8), ⟨⟨hd, fromD_ok (by omega) (by omega) imgZ_len imgZ_lt, rfl, by rw [hN]; exact Nat.zero_le _, ⟨(fun _ ha => absurd ha List.not_mem_nil), by show 0 < _; omega⟩, Nat.le_refl _⟩, hl, rfl, hf, hB.size⟩, rfl, rfl, rfl⟩
section
variable {B0 gl b : Nat} {W : World} {L : Lay} {σ : St}
theorem aw_write (h : Lg B0 W gl b 128 192 L σ) (hn : σ.n = 16) (ho : σ.ops = 0) (hb : σ.bytes = imgZ 8) :
    Calls Try.prog 8 #[.pointer (some ⟨gl, 0, none⟩), .slice (some ⟨W.heap.size, 0, none⟩) 1 1] (W.alloc (.cells #[.int .i64 64, .int .i64 4] 52)) fun e w' => e = .returned (.int .i64 0) ∧ ∃ L' s, Lg B0 w' gl b 128 192 L' s ∧ s.n = 16 ∧ s.ops ≤ 6000000 ∧ leV ((s.bytes.drop 128).take 8) = 1 ∧ RecsAt 128 192 16 s.bytes 192 [(64, [64, 65, 66, 67])] ∧ Kp8 B0 W w' := by
  have hA : Below W.heap.size W (W.alloc (.cells #[.int .i64 64, .int .i64 4] 52)) := (Below.refl _ W).alloc (Nat.le_refl _) _
  have hm : SlE (W.alloc (.cells #[.int .i64 64, .int .i64 4] 52)) (some ⟨W.heap.size, 0, none⟩) [(64, 4)] := by
    refine ⟨by decide, .inr ⟨W.heap.size, 0, _, rfl, heap_alloc_new _ _, ?_⟩⟩
    intro i x l hi
    match i, hi with
    | 0, hi => simp at hi; obtain ⟨rfl, rfl⟩ := hi; exact ⟨rfl, rfl⟩
    | n + 1, hi => simp at hi
  refine (lg_write (h.below hA) (by rw [hn]; exact ⟨by omega, by omega, by omega, by omega⟩) (by omega) (by rw [hb]; exact imgZ_num) hm rfl (by decide) (by decide) (by rw [hn]; decide)).mono ?_
  rintro e w' ⟨rfl, L', s, hL, hW, hK, _⟩
  have h1 := hW.like.n
  have h2 := hW.like.ops
  have h3 := hW.few
  have h4 := hW.num
  have h5 := hW.recs
  rw [hn, hb] at h5
  refine ⟨rfl, L', s, hL, by omega, by omega, h4, ?_, (Kp8.of_below hA h.big).trans hK⟩
  have e : recL (imgZ 8) [(64, 4)] = [(64, [64, 65, 66, 67])] := by
    show [((64 : Int).toNat, ((imgZ 8).drop 64).take 4)] = _
    rw [imgZ_olds]
    rfl
  rw [e] at h5
  exact h5
theorem aw_store (h : Lg B0 W gl b 128 192 L σ) (hn : σ.n = 16) (ho : σ.ops ≤ 6000000) (h1 : leV ((σ.bytes.drop 128).take 8) = 1) (h2 : RecsAt 128 192 16 σ.bytes 192 [(64, [64, 65, 66, 67])]) :
    Calls Try.prog 20 #[.pointer (some ⟨b, 0, none⟩), .int .i64 64, .slice (some ⟨W.heap.size, 0, none⟩) 4 4] (W.alloc (.cells #[.int .u8 9, .int .u8 9, .int .u8 9, .int .u8 9] 5)) fun e w' => e = .returned (.int .i64 0) ∧ ∃ L' s, Lg B0 w' gl b 128 192 L' s ∧ s.n = 16 ∧ s.ops ≤ 7000000 ∧ leV ((s.bytes.drop 128).take 8) = 1 ∧ RecsAt 128 192 16 s.bytes 192 [(64, [64, 65, 66, 67])] ∧ Kp8 B0 W w' := by
  have hA : Below W.heap.size W (W.alloc (.cells #[.int .u8 9, .int .u8 9, .int .u8 9, .int .u8 9] 5)) := (Below.refl _ W).alloc (Nat.le_refl _) _
  have hO : OwnB (W.alloc (.cells #[.int .u8 9, .int .u8 9, .int .u8 9, .int .u8 9] 5)) W.heap.size [9, 9, 9, 9] := heap_alloc_new _ _
  refine (lg_store (bs := [9, 9, 9, 9]) 64 4 (h.below hA) (by omega) (hO.sl (by decide)) (by decide) (by decide) (by rw [hn]; decide) hO byte_nd).mono ?_
  rintro e w' ⟨rfl, L', s, hL, hl, hb, hK, _⟩
  have hwl := wordsOf_few (at_ := 64) (n := 4) (by omega)
  have e1 := hl.n
  have e2 := hl.ops
  have e3 : ([9, 9, 9, 9] : List Nat).length = 4 := rfl
  rw [e3] at e2
  have hlen : σ.bytes.length = 1024 := by rw [h.dv.ok.len, hn]
  refine ⟨rfl, L', s, hL, by omega, by omega, ?_, ?_, (Kp8.of_below hA h.big).trans hK⟩
  · rw [hb, splice_out (by rw [e3]; omega) (by rw [e3]; omega)]
    exact h1
  · refine RecsAt.out _ _ (fun p n hp hn => ?_) h2
    rw [hb]
    exact splice_out (by rw [e3]; omega) (by rw [e3]; omega)
theorem aw_rollback (h : Lg B0 W gl b 128 192 L σ) (hn : σ.n = 16) (ho : σ.ops ≤ 7000000) (h1 : leV ((σ.bytes.drop 128).take 8) = 1) (h2 : RecsAt 128 192 16 σ.bytes 192 [(64, [64, 65, 66, 67])]) :
    Calls Try.prog 18 #[.pointer (some ⟨gl, 0, none⟩)] W fun e w' => e = .returned (.tuple #[.int .i64 1, .int .i64 0]) ∧ ∃ L' s, Lg B0 w' gl b 128 192 L' s ∧ s.n = 16 ∧ s.ops ≤ 30000000 ∧ leV ((s.bytes.drop 128).take 8) = 0 ∧ (s.bytes.drop 64).take 4 = [64, 65, 66, 67] ∧ Kp8 B0 W w' := by
  refine (lg_rollback [(64, [64, 65, 66, 67])] h (by rw [hn]; exact ⟨by omega, by omega, by omega, by omega⟩) (by omega) h1 (by rw [hn]; exact h2) (by decide) (by decide)).mono ?_
  rintro e w' ⟨rfl, L', s, hL, hW, hK, _⟩
  have e1 := hW.like.n
  have e2 := hW.like.ops
  have e3 := hW.few
  have e4 : ([64, 65, 66, 67] : List Nat).length = 4 := rfl
  have e5 : (leB 8 0).length = 8 := leB_length 8 0
  have hlen : σ.bytes.length = 1024 := by rw [h.dv.ok.len, hn]
  have e6 : (splice σ.bytes 64 [64, 65, 66, 67]).length = 1024 := (splice_len _ _ _ (by rw [e4]; omega)).trans hlen
  refine ⟨rfl, L', s, hL, by omega, by omega, hW.num, ?_, hK⟩
  have e7 : s.bytes = splice (splice σ.bytes 64 [64, 65, 66, 67]) 128 (leB 8 0) := hW.bytes
  rw [e7, splice_out (by omega) (by omega)]
  have := splice_at (B := σ.bytes) (c := [64, 65, 66, 67]) (at_ := 64) (by rw [e4]; omega)
  rw [e4] at this
  exact this
theorem aw_records (h : Lg B0 W gl b 128 192 L σ) (hn : σ.n = 16) (h1 : leV ((σ.bytes.drop 128).take 8) = 1) (h2 : RecsAt 128 192 16 σ.bytes 192 [(64, [64, 65, 66, 67])]) :
    Calls Try.prog 10 #[.pointer (some ⟨gl, 0, none⟩)] W fun e w' => ∃ gr cap cur, e = .returned (.tuple #[.slice (some ⟨gr, 0, none⟩) 1 cap, .int .i64 0]) ∧ w'.heap[gr]? = some (.cells cur 57 (0, 0)) ∧ cur[0]? = some (.int .i64 64) ∧ Below W.heap.size W w' := by
  refine (lrecords_ok [(64, [64, 65, 66, 67])] h.log h.dv (by omega) (by omega) (by rw [hn]; omega) h1 (by rw [hn]; exact h2) (by decide)).mono ?_
  rintro e w' ⟨v, Rs, rfl, hrow, hB⟩
  obtain ⟨gr, cap, cur, rfl, hg, _, hc⟩ := hrow.slice (by decide)
  have hl := hrow.len
  obtain ⟨R, rfl⟩ : ∃ R, Rs = [R] := by
    match Rs, hl with
    | [R], _ => exact ⟨R, rfl⟩
  have := hc 0 ((64, [64, 65, 66, 67]), R) rfl
  exact ⟨gr, cap, cur, rfl, hg, this.1, hB⟩
end
end Go.Proofs.Ytgfgihpkbbjkfaa
namespace Go.Proofs.Ytgfgihpkbbjkfaa
open Go.RowKit Go.Shelf
set_option linter.unusedVariables false
set_option maxRecDepth 100000

theorem neq_devN (a : Addr) (w : World) : (binOp .neq 28 (.pointer none) (.pointer (some a))).run Try.prog w = .ok (.bool true) w := by
  have h : ∀ d : Nat, (Op.equalIn (d + 1) 28 (.pointer none) (.pointer (some a))).run Try.prog w = .ok false w := fun d => by
    simp [Op.equalIn, run_underlying (show Try.prog.underlying 28 = some (.pointer 69) by kernel_rfl)]
  simp only [binOp]
  simp [Op.equal, Op.maxDepth, h 9999]
/-- What is no device: nil, or one that no call made. -/
def NoV (w : World) (v : Value) : Prop := v = .pointer none ∨ ∃ g c, v = .pointer (some ⟨g, 0, none⟩) ∧ w.heap[g]? = some (.cells c 69 (0, 0)) ∧ c[0]? = some (.pointer none)
theorem nv_none {w : World} {v : Value} (h : NoV w v) : Calls Try.prog 26 #[v] w fun e w' => e = .returned (.bool true) ∧ w' = w := by
  rcases h with rfl | ⟨g, c, rfl, hg, hc⟩
  · go_enter Try.func26, Try.ntmps26
    go_wp2
    go_ret
    exact ⟨rfl, rfl⟩
  · have c0 : w.cell? ⟨g, 0, none⟩ = some (.pointer none) := (cell8 hg 0).trans hc
    have hq := neq_devN ⟨g, 0, none⟩ w
    clear hg hc
    go_enter Try.func26, Try.ntmps26
    go_wp2
    go_ret
    exact ⟨rfl, rfl⟩
theorem nv_size {w : World} {v : Value} (h : NoV w v) : Calls Try.prog 27 #[v] w fun e w' => e = .returned (.int .i64 0) ∧ w' = w := by
  have KN := hide (nv_none h)
  rcases h with rfl | ⟨g, c, rfl, hg, hc⟩ <;>
  · go_enter Try.func27, Try.ntmps27
    go_wp2_with (go_at_call 26; refine (KN.out).mono ?_; rintro e w' ⟨rfl, hw⟩; obtain rfl := hw.symm)
    go_ret
    exact ⟨rfl, rfl⟩
theorem nv_open {w : World} {v : Value} (h : NoV w v) (a z : Int) : Calls Try.prog 24 #[v, .int .i64 a, .int .i64 z] w fun e w' => e = .returned (.tuple #[.pointer none, .int .i64 1]) ∧ w' = w := by
  have KN := hide (nv_size h)
  rcases h with rfl | ⟨g, c, rfl, hg, hc⟩ <;>
  · go_enter Try.func24, Try.ntmps24
    go_wp2_with (go_at_call 27; refine (KN.out).mono ?_; rintro e w' ⟨rfl, hw⟩; obtain rfl := hw.symm)
    go_ret2
    exact ⟨rfl, rfl⟩
theorem aw_eq {W : World} {R : Nat} (h : OwnB W R [64, 65, 66, 67]) : Calls Try.prog 22 #[.slice (some ⟨R, 0, none⟩) 4 4, .slice (some ⟨W.heap.size, 0, none⟩) 4 4] (W.alloc (.cells #[.int .u8 64, .int .u8 65, .int .u8 66, .int .u8 67] 5)) fun e w' => e = .returned (.bool true) ∧ Below W.heap.size W w' := by
  have hA : Below W.heap.size W (W.alloc (.cells #[.int .u8 64, .int .u8 65, .int .u8 66, .int .u8 67] 5)) := (Below.refl _ W).alloc (Nat.le_refl _) _
  have h1 : OwnB (W.alloc (.cells #[.int .u8 64, .int .u8 65, .int .u8 66, .int .u8 67] 5)) R [64, 65, 66, 67] := h.below hA h.lt
  have h2 : OwnB (W.alloc (.cells #[.int .u8 64, .int .u8 65, .int .u8 66, .int .u8 67] 5)) W.heap.size [64, 65, 66, 67] := heap_alloc_new _ _
  refine (eqBytes_any (some ⟨R, 0, none⟩) (some ⟨W.heap.size, 0, none⟩) 4 4 [64, 65, 66, 67] [64, 65, 66, 67] _ (h1.sl (by decide)) (h2.sl (by decide)) (by decide)).mono ?_
  rintro e w' ⟨rfl, n, rfl⟩
  exact ⟨rfl, below_drewN hA n⟩
set_option maxHeartbeats 2000000 in
theorem uawake_any (w : World) : Calls Try.prog 4 #[] w fun e w' => e = .returned (.bool true) ∧ Below w.heap.size w w' := by
  have KM := hide (umade_any 192 w (by omega) (by omega) (by omega))
  have M1 := hide trivial
  have M2 := hide trivial
  go_enter Try.func4, Try.ntmps4
  go_wp2_with (first
    | (go_at_call 5; refine (KM.out).mono ?_; rintro e W1 ⟨b, L, gl, rfl, hd, hN, hf, hl, hB⟩; obtain ⟨σ, hlg, hn, ho, hby⟩ := lg_made hd hN hf hl hB; have HL := hide hlg; have HP := hide (And.intro hn (And.intro ho hby)); have HB := hide hB; clear hd hN hf hl hlg hn ho hby hB)
    | (go_at_call 8; clear M1; refine (aw_write HL.out HP.out.1 HP.out.2.1 HP.out.2.2).mono ?_; rintro e W2 ⟨rfl, L1, s1, hl1, g1, g2, g3, g4, hk1⟩; have HL1 := hide hl1; have HP1 := hide (And.intro g1 (And.intro g2 (And.intro g3 g4))); have HK1 := hide hk1; clear hl1 g1 g2 g3 g4 hk1)
    | (go_at_call 8; refine (lwrite_state (HL1.out).log (HL1.out).dv (by omega) (by rw [HP1.out.1]; omega) (by rw [HP1.out.2.2.1]; omega)).mono ?_; rintro e W3 ⟨rfl, hb3⟩; have HL2 := hide (HL1.out.below hb3); have HK2 := hide (HK1.out.trans (Kp8.of_below hb3 HL1.out.big)); clear hb3)
    | (go_at_call 20; refine (aw_store HL2.out HP1.out.1 HP1.out.2.1 HP1.out.2.2.1 HP1.out.2.2.2).mono ?_; rintro e W4 ⟨rfl, L3, s3, hl3, g1, g2, g3, g4, hk3⟩; have HL3 := hide hl3; have HP3 := hide (And.intro g1 (And.intro g2 (And.intro g3 g4))); have HK3 := hide (HK2.out.trans hk3); clear hl3 g1 g2 g3 g4 hk3)
    | (go_at_call 10; refine (aw_records HL3.out HP3.out.1 HP3.out.2.2.1 HP3.out.2.2.2).mono ?_; rintro e W5 ⟨gr, cap, cur, rfl, hgr, hcur, hb5⟩; have HL4 := hide (HL3.out.below hb5); have HK4 := hide (HK3.out.trans (Kp8.of_below hb5 HL3.out.big)); have HR := hide hgr; have HC := hide hcur; clear hb5 hgr hcur)
    | (go_at_call 18; clear M2; refine (aw_rollback HL4.out HP3.out.1 HP3.out.2.1 HP3.out.2.2.1 HP3.out.2.2.2).mono ?_; rintro e W6 ⟨rfl, L5, s5, hl5, g1, g2, g3, g4, hk5⟩; have HL5 := hide hl5; have HP5 := hide (And.intro g1 (And.intro g2 (And.intro g3 g4))); have HK5 := hide (HK4.out.trans hk5); have HR5 := hide (hk5.keep _ _ _ _ HR.out rec_nd); clear hl5 g1 g2 g3 g4 hk5)
    | (go_at_call 21; refine (dv_load (at_ := 64) (n := 4) (HL5.out).dv (by rw [HP5.out.1]; omega)).mono ?_; rintro e W7 ⟨R, rfl, hR, hO, hb7⟩; rw [HP5.out.2.2.2] at hO; have HL6 := hide (HL5.out.below hb7); have HK6 := hide (HK5.out.trans (Kp8.of_below hb7 HL5.out.big)); have HR6 := hide ((hb7.block _ (lt_of_heap HR5.out)).trans HR5.out); have HO := hide hO; clear hb7 hR hO)
    | (go_at_call 18; refine (lrollback_none (HL6.out).log (HL6.out).dv (by omega) (by omega) (by rw [HP5.out.1]; omega) HP5.out.2.2.1).mono ?_; rintro e W8 ⟨rfl, hb8⟩; have HK7 := hide (HK6.out.trans (Kp8.of_below hb8 HL6.out.big)); have HO7 := hide (HO.out.below hb8 HO.out.lt); have cc := (cell8 ((hb8.block _ (lt_of_heap HR6.out)).trans HR6.out) 0).trans HC.out; clear hb8)
    | (go_at_call 22; refine (aw_eq HO7.out).mono ?_; rintro e W9 ⟨rfl, hb9⟩; have HB9 := hide hb9; clear hb9))
  go_ret
  exact ⟨rfl, bseq (HB.out.trans HK7.out.below) HB9.out⟩
end Go.Proofs.Ytgfgihpkbbjkfaa
namespace Go.Proofs.Ytgfgihpkbbjkfaa
open Go.RowKit Go.Shelf
set_option linter.unusedVariables false
set_option maxRecDepth 100000

theorem uwithin_any (w : World) (i n : Int) (hn : 0 < n) (hn' : n ≤ 4611686018427387904) (hi : -9223372036854775808 ≤ i) (hi' : i ≤ 9223372036854775807) : Calls Try.prog 25 #[.int .i64 i, .int .i64 n] w fun e w' => e = .returned (.int .i64 (i % n)) ∧ w' = w := by
  obtain ⟨h1, h2, h3⟩ := within_eq i n hn
  have hn0 : ¬ n = 0 := by omega
  obtain ⟨t, ht⟩ : ∃ t, i.tmod n = t := ⟨_, rfl⟩
  rw [ht] at h1 h2 h3
  by_cases h : t < 0
  · rw [if_pos h] at h1
    rw [← h1]
    clear h1
    go_enter Try.func25, Try.ntmps25
    go_wp2
    go_ret
    exact ⟨rfl, rfl⟩
  · rw [if_neg h] at h1
    rw [← h1]
    clear h1
    go_enter Try.func25, Try.ntmps25
    go_wp2
    go_ret
    exact ⟨rfl, rfl⟩
/-- The lengths. -/
def zsR (ls : List Int) (i : Nat) : List Int := (ls.take i).map (fun x => 1 + x % 90)
theorem zsR_succ {ls : List Int} {i : Nat} {x : Int} (h : ls[i]? = some x) : zsR ls (i + 1) = zsR ls i ++ [1 + x % 90] := by
  unfold zsR
  rw [List.take_add_one, h]
  simp
theorem zsR_mem {ls : List Int} {i : Nat} : ∀ z ∈ zsR ls i, 1 ≤ z ∧ z ≤ 90 := by
  intro z hz
  unfold zsR at hz
  obtain ⟨x, _, rfl⟩ := List.mem_map.1 hz
  omega
theorem zsR_len {ls : List Int} {i : Nat} (h : i ≤ ls.length) : (zsR ls i).length = i := by
  unfold zsR
  rw [List.length_map, List.length_take]
  omega
/-- The extents. -/
def exU (zs : List Int) : List (Int × Int) := zs.map (fun z => (600, z))
theorem exU_len (zs : List Int) : (exU zs).length = zs.length := by simp [exU]
theorem needV_good : ∀ (zs : List Int) (s : Int), (∀ l ∈ zs, 1 ≤ l ∧ l ≤ 90) → 0 ≤ s → s + 200 * (zs.length : Int) ≤ 1000000000 → (needV s zs).2 = 0
  | [], s, _, _, _ => rfl
  | l :: t, s, h, h0, hs => by
    obtain ⟨h1, h2⟩ := h l (by simp)
    have hr := roundV_pad h1 (by omega)
    have hp : padN l.toNat < 8 := by unfold padN; omega
    rw [List.length_cons] at hs
    unfold needV
    rw [hr, if_neg (by
      rintro (h | h | h)
      · omega
      · exact h rfl
      · simp only at h; omega)]
    exact needV_good t _ (fun y hy => h y (by simp [hy])) (by simp only; omega) (by simp only; omega)
theorem sum_ge : ∀ (zs : List Int), (∀ l ∈ zs, 1 ≤ l ∧ l ≤ 90) → 32 * zs.length ≤ (zs.map (fun l => rlen l.toNat)).sum ∧ (zs.map (fun l => rlen l.toNat)).sum ≤ 200 * zs.length
  | [], _ => by simp
  | l :: t, h => by
    have h1 := sum_ge t (fun y hy => h y (by simp [hy]))
    obtain ⟨h2, h3⟩ := h l (by simp)
    have h4 : 32 ≤ rlen l.toNat ∧ rlen l.toNat ≤ 200 := by unfold rlen padN; omega
    rw [List.map_cons, List.sum_cons, List.length_cons]
    omega
theorem need_room {zs : List Int} (hz : ∀ l ∈ zs, 1 ≤ l ∧ l ≤ 90) (hl : zs.length ≤ 40) : (needV 0 zs).2 = 0 ∧ ((32 * zs.length : Nat) : Int) ≤ (needV 0 zs).1 ∧ (needV 0 zs).1 ≤ 8000 := by
  have h1 := needV_good zs 0 hz (by omega) (by omega)
  have h2 := needV_sum zs 0 h1 (fun l hl => by have := hz l hl; omega)
  have h3 := sum_ge zs hz
  refine ⟨h1, ?_, ?_⟩ <;> rw [h2] <;> omega
theorem needX_room {zs : List Int} (hz : ∀ l ∈ zs, 1 ≤ l ∧ l ≤ 90) (hl : zs.length ≤ 40) : needX 128 384 16 (exU zs) = if 320 < (needV 0 zs).1 then (0, 111) else ((needV 0 zs).1, 0) := by
  have h1 := (need_room hz hl).1
  have h2 : allMay 128 384 16 (exU zs) = true := by
    unfold allMay
    refine List.all_eq_true.2 fun x hx => ?_
    unfold exU at hx
    obtain ⟨l, hl, rfl⟩ := List.mem_map.1 hx
    have := hz l hl
    refine may_of_fine (x := (600, l)) ⟨by simp only; omega, by simp only; omega, by simp only; omega, .inr (by simp only; omega)⟩
  have h3 : (exU zs).map Prod.snd = zs := by simp [exU, Function.comp_def]
  unfold needX
  rw [if_pos h2, h3]
  by_cases h : 320 < (needV 0 zs).1
  · rw [if_pos h, if_pos (.inr (by omega))]
  · rw [if_neg h, if_neg (by
      rintro (h4 | h4)
      · exact h4 h1
      · omega)]
section
variable {B0 gl b : Nat} {W : World} {L : Lay} {σ : St}
theorem rm_write {ea : Option Addr} {zs : List Int} {m cap : Nat} (h : Lg B0 W gl b 128 384 L σ) (hn : σ.n = 16) (ho : σ.ops = 0) (hb : σ.bytes = imgZ 8) (hz : ∀ l ∈ zs, 1 ≤ l ∧ l ≤ 90) (he : SlE W ea (exU zs)) (hm : zs.length = m) (hml : m ≤ 40) :
    Calls Try.prog 8 #[.pointer (some ⟨gl, 0, none⟩), .slice ea m cap] W fun e w' => ∃ c rs L' s, e = .returned (.int .i64 c) ∧ Lg B0 w' gl b 128 384 L' s ∧ s.n = 16 ∧ s.ops ≤ 6000000 ∧ leV ((s.bytes.drop 128).take 8) = rs.length ∧ RecsAt 128 384 16 s.bytes 192 rs ∧ (320 < (needV 0 zs).1 → c = 111 ∧ rs = [] ∧ s.ops = 0) ∧ (¬ 320 < (needV 0 zs).1 → c = 0 ∧ rs = recL (imgZ 8) (exU zs)) ∧ Kp8 B0 W w' ∧ Stp W b L σ w' L' s := by
  have hnx := needX_room hz (by omega)
  have hnr := need_room hz (by omega)
  have hnum : leV ((σ.bytes.drop 128).take 8) = 0 := by rw [hb]; exact imgZ_num
  have hsame : ∀ w', Below W.heap.size W w' → Lg B0 w' gl b 128 384 L σ ∧ Kp8 B0 W w' ∧ Stp W b L σ w' L σ := fun w' hB => ⟨h.below hB, Kp8.of_below hB h.big, ⟨Gr.of_below hB, fun k hk => .inl hk⟩⟩
  by_cases hc : 320 < (needV 0 zs).1
  · rw [if_pos hc] at hnx
    refine (lwrite_none (cap := cap) h.log h.dv (by omega) (by omega) (by rw [hn]; omega) hnum he ((exU_len zs).trans hm) (by omega) (by rw [hn, hnx]; exact .inl (by decide))).mono ?_
    rintro e w' ⟨rfl, hB⟩
    obtain ⟨a1, a2, a3⟩ := hsame w' hB
    refine ⟨111, [], L, σ, by rw [hn, hnx], a1, hn, by omega, hnum, trivial, fun _ => ⟨rfl, rfl, ho⟩, fun h => absurd hc h, a2, a3⟩
  · rw [if_neg hc] at hnx
    by_cases h0 : zs = []
    · subst h0
      refine (lwrite_none (cap := cap) h.log h.dv (by omega) (by omega) (by rw [hn]; omega) hnum he ((exU_len []).trans hm) (by omega) (by rw [hn, hnx]; exact .inr rfl)).mono ?_
      rintro e w' ⟨rfl, hB⟩
      obtain ⟨a1, a2, a3⟩ := hsame w' hB
      exact ⟨0, [], L, σ, by rw [hn, hnx], a1, hn, by omega, hnum, trivial, fun h => absurd h hc, fun _ => ⟨rfl, rfl⟩, a2, a3⟩
    · have hm1 : 1 ≤ m := by
        cases zs with
        | nil => exact absurd rfl h0
        | cons x t => simp at hm; omega
      refine (lg_write (cap := cap) h (by rw [hn]; exact ⟨by omega, by omega, by omega, by omega⟩) (by omega) hnum he ((exU_len zs).trans hm) hm1 (by omega) (by rw [hn, hnx])).mono ?_
      rintro e w' ⟨rfl, L', s, hL, hW, hK, hS⟩
      have h1 := hW.like.n
      have h2 := hW.like.ops
      have h3 := hW.few
      have h4 := hW.num
      have h5 := hW.recs
      rw [hn, hb] at h5
      refine ⟨0, recL (imgZ 8) (exU zs), L', s, rfl, hL, by omega, by omega, by rw [recL_len]; exact h4, h5, fun h => absurd h hc, fun _ => ⟨rfl, rfl⟩, hK, hS⟩
end
theorem infoExt : ∃ i, Try.prog.info? 52 = some i ∧ i.zero = some (.agg #[.int .i64 0, .int .i64 0]) ∧ i.size = 2 ∧ i.bytes = 16 := by
  have h : (Try.prog.info? 52).map (fun i => (i.zero, i.size, i.bytes)) = some (some (.agg #[.int .i64 0, .int .i64 0]), 2, 16) := by kernel_rfl
  cases hq : Try.prog.info? 52 with
  | none => rw [hq] at h; cases h
  | some i => rw [hq] at h; simp at h; exact ⟨i, rfl, h.1, h.2.1, h.2.2⟩
theorem infoNum : ∃ i, Try.prog.info? 3 = some i ∧ i.zero = some (.int .i64 0) ∧ i.size = 1 ∧ i.bytes = 8 := by
  have h : (Try.prog.info? 3).map (fun i => (i.zero, i.size, i.bytes)) = some (some (.int .i64 0), 1, 8) := by kernel_rfl
  cases hq : Try.prog.info? 3 with
  | none => rw [hq] at h; cases h
  | some i => rw [hq] at h; simp at h; exact ⟨i, rfl, h.1, h.2.1, h.2.2⟩
/-- The cells of extents. -/
def exC (xs : List (Int × Int)) : List Value := xs.flatMap (fun x => [.int .i64 x.1, .int .i64 x.2])
theorem exC_snoc (xs : List (Int × Int)) (x : Int × Int) : exC (xs ++ [x]) = exC xs ++ [.int .i64 x.1, .int .i64 x.2] := by simp [exC]
theorem exC_get : ∀ (xs : List (Int × Int)) (i : Nat) (x l : Int), xs[i]? = some (x, l) → (exC xs)[i * 2]? = some (.int .i64 x) ∧ (exC xs)[i * 2 + 1]? = some (.int .i64 l)
  | [], i, x, l, h => by simp at h
  | y :: t, 0, x, l, h => by simp at h; subst h; exact ⟨rfl, rfl⟩
  | y :: t, i + 1, x, l, h => by
    have h1 := exC_get t i x l (by simpa using h)
    have e : exC (y :: t) = .int .i64 y.1 :: .int .i64 y.2 :: exC t := rfl
    rw [e, show (i + 1) * 2 = i * 2 + 1 + 1 by omega]
    exact h1
theorem sle_of_row {W : World} {base n cap : Nat} {v : Value} {xs : List (Int × Int)} (h : W.ownsRow base 52 2 v n (exC xs)) (hn : xs.length = n) (hb : ∀ x ∈ xs, (-9223372036854775808 ≤ x.1 ∧ x.1 ≤ 9223372036854775807) ∧ (-9223372036854775808 ≤ x.2 ∧ x.2 ≤ 9223372036854775807)) : ∃ a c, v = .slice a n c ∧ SlE W a xs := by
  rcases h.2 with ⟨rfl, rfl⟩ | ⟨g, cp, cur, rfl, h1, h2, h3, h4, h5, h6⟩
  · exact ⟨none, 0, rfl, hb, .inl (List.length_eq_zero_iff.1 hn)⟩
  · refine ⟨some ⟨g, 0, none⟩, cp, rfl, hb, .inr ⟨g, 0, cur, rfl, h2, fun i x l hi => ?_⟩⟩
    obtain ⟨e1, e2⟩ := exC_get xs i x l hi
    have hil : i < xs.length := (List.getElem?_eq_some_iff.1 hi).1
    rw [← h6, List.getElem?_take, if_pos (by omega), Array.getElem?_toList] at e1 e2
    rw [Nat.zero_add]
    exact ⟨e1, e2⟩
theorem slz_of_row {W : World} {base n : Nat} {v : Value} {zs : List Int} (h : W.ownsRow base 3 1 v n (zs.map (fun z => .int .i64 z))) (hn : zs.length = n) (hb : ∀ z ∈ zs, -9223372036854775808 ≤ z ∧ z ≤ 9223372036854775807) : ∃ a c, v = .slice a n c ∧ SlZ W a zs := by
  rcases h.2 with ⟨rfl, rfl⟩ | ⟨g, cp, cur, rfl, h1, h2, h3, h4, h5, h6⟩
  · exact ⟨none, 0, rfl, hb, .inl (List.length_eq_zero_iff.1 hn)⟩
  · refine ⟨some ⟨g, 0, none⟩, cp, rfl, hb, .inr ⟨g, 0, rfl, lt_of_heap h2, fun i z hi => ?_⟩⟩
    have hil : i < zs.length := (List.getElem?_eq_some_iff.1 hi).1
    have e1 : (zs.map (fun z => Value.int .i64 z))[i]? = some (.int .i64 z) := by rw [List.getElem?_map, hi]; rfl
    rw [← h6, List.getElem?_take, if_pos (by omega), Array.getElem?_toList] at e1
    rw [Nat.zero_add]
    exact (cell8 h2 i).trans e1
end Go.Proofs.Ytgfgihpkbbjkfaa
namespace Go.Proofs.Ytgfgihpkbbjkfaa
open Go.RowKit Go.Shelf
set_option linter.unusedVariables false
set_option maxRecDepth 100000

theorem own_other {W W' : World} {base n n' s s' : Nat} {t t' : TypeId} {v v' : Value} {xs xs' : List Value} (h : W.ownsRow base t s v n xs) (h' : W.ownsRow base t' s' v' n' xs') (ht : t ≠ t') (hg : W.grownBy W' v'.ownBlock) : W'.ownsRow base t s v n xs := by
  refine ownsRow_of_block h (fun g hgb => ?_)
  obtain ⟨c, hc⟩ := own_type h hgb
  refine hg.block g (lt_of_heap hc) (fun e => ?_)
  obtain ⟨c', hc'⟩ := own_type h' e.symm
  exact ne_ty hc hc' ht rfl
theorem own_below {W W' : World} {base n s : Nat} {t : TypeId} {v : Value} {xs : List Value} (h : W.ownsRow base t s v n xs) (hB : Below W.heap.size W W') : W'.ownsRow base t s v n xs :=
  ownsRow_of_block h (fun g hg => by obtain ⟨c, hc⟩ := own_type h hg; exact hB.block g (lt_of_heap hc))
theorem index_numU (g o i len cap : Nat) (hi : i < len) (w : World) : (Instr.indexAt 87 (.slice (some ⟨g, o, none⟩) len cap) (.int .i64 (i : Int))).run Try.prog w = .ok (.pointer (some ⟨g, o + i, none⟩)) w := by
  have h := index_at (t := 87) (e := 3) (sz := 1) Try.underlying87 (by kernel_rfl) g o i len cap hi w
  rwa [Nat.mul_one] at h
theorem index_recU (g i len cap : Nat) (hi : i < len) (w : World) : (Instr.indexAt 38 (.slice (some ⟨g, 0, none⟩) len cap) (.int .i64 (i : Int))).run Try.prog w = .ok (.pointer (some ⟨g, i * 2, none⟩)) w := by
  have h := index_at (t := 38) (e := 57) (sz := 2) Try.underlying38 (by kernel_rfl) g 0 i len cap hi w
  rwa [Nat.zero_add] at h
/-- A row of records as a slice, none among them. -/
theorem RowC.shape {w : World} {base : Nat} {v : Value} {rs : List (Nat × List Nat)} {Rs : List Nat} (h : RowC w base v rs Rs) : ∃ a cap, v = .slice a rs.length cap ∧ ∀ (i : Nat) (r : Nat × List Nat), rs[i]? = some r → ∃ gr cur R, a = some ⟨gr, 0, none⟩ ∧ w.heap[gr]? = some (.cells cur 57 (0, 0)) ∧ cur[i * 2]? = some (.int .i64 (r.1 : Int)) ∧ cur[i * 2 + 1]? = some (.slice (some ⟨R, 24, none⟩) r.2.length ((recB r.1 r.2).length - 24)) := by
  by_cases h0 : rs = []
  · subst h0
    obtain ⟨a, cap, rfl⟩ := h.nil
    exact ⟨a, cap, rfl, fun i r hr => by simp at hr⟩
  · obtain ⟨gr, cap, cur, rfl, hg, _, hc⟩ := h.slice (by cases rs with | nil => exact absurd rfl h0 | cons x t => simp)
    refine ⟨some ⟨gr, 0, none⟩, cap, rfl, fun i r hr => ?_⟩
    have hi : i < rs.length := (List.getElem?_eq_some_iff.1 hr).1
    have hR : i < Rs.length := by rw [h.len]; exact hi
    obtain ⟨h1, h2⟩ := hc i (r, Rs[i]) (by rw [List.getElem?_zip_eq_some]; exact ⟨hr, List.getElem?_eq_getElem hR⟩)
    exact ⟨gr, cur, Rs[i], rfl, hg, h1, h2⟩
/-- What stands in the records of extents at 600. -/
theorem recR_get {zs : List Int} {i : Nat} {z : Int} (hz : ∀ l ∈ zs, 1 ≤ l ∧ l ≤ 90) (h : zs[i]? = some z) : ∃ old, (recL (imgZ 8) (exU zs))[i]? = some (600, old) ∧ ((old.length : Nat) : Int) = z := by
  have hm := hz z (List.mem_of_getElem? h)
  refine ⟨oldOf (imgZ 8) (600, z), ?_, ?_⟩
  · unfold recL exU
    rw [List.map_map, List.getElem?_map, h]
    rfl
  · have hf : Fine 128 384 16 (600, z) := ⟨by simp only; omega, by simp only; omega, by simp only; omega, .inr (by simp only; omega)⟩
    rw [fine_old hf (by rw [imgZ_len])]
    simp only
    omega
end Go.Proofs.Ytgfgihpkbbjkfaa
namespace Go.Proofs.Ytgfgihpkbbjkfaa
open Go.RowKit Go.Shelf
set_option linter.unusedVariables false
set_option maxRecDepth 100000

/-- How many bytes an extent is brought to, and where. -/
def brN (l : Int) : Int := 1 + IntKind.i64.wrap (l - 1) % 40
def brA (x l : Int) : Int := if 256 ≤ x ∨ x < 0 then 512 + x % (513 - brN l) else 64 + x % (65 - brN l)
def brE (x : Int × Int) : Int × Int := (brA x.1 x.2, brN x.2)
def brL (xs : List (Int × Int)) (i : Nat) : List (Int × Int) := (xs.take i).map brE
theorem brL_succ {xs : List (Int × Int)} {i : Nat} {x : Int × Int} (h : xs[i]? = some x) : brL xs (i + 1) = brL xs i ++ [brE x] := by
  unfold brL
  rw [List.take_add_one, h]
  simp
theorem brL_len {xs : List (Int × Int)} {i : Nat} (h : i ≤ xs.length) : (brL xs i).length = i := by
  unfold brL
  rw [List.length_map, List.length_take]
  omega
theorem brN_in (l : Int) : 1 ≤ brN l ∧ brN l ≤ 40 := by unfold brN; omega
theorem brA_in (x l : Int) : (64 ≤ brA x l ∧ brA x l + brN l ≤ 128) ∨ (512 ≤ brA x l ∧ brA x l + brN l ≤ 1024) := by
  have h := brN_in l
  unfold brA
  have e1 : 0 ≤ x % (513 - brN l) := Int.emod_nonneg _ (by omega)
  have e2 : x % (513 - brN l) < 513 - brN l := Int.emod_lt_of_pos _ (by omega)
  have e3 : 0 ≤ x % (65 - brN l) := Int.emod_nonneg _ (by omega)
  have e4 : x % (65 - brN l) < 65 - brN l := Int.emod_lt_of_pos _ (by omega)
  split <;> omega
theorem brL_in {xs : List (Int × Int)} {i : Nat} : ∀ y ∈ brL xs i, 1 ≤ y.2 ∧ y.2 ≤ 40 ∧ ((64 ≤ y.1 ∧ y.1 + y.2 ≤ 128) ∨ (512 ≤ y.1 ∧ y.1 + y.2 ≤ 1024)) := by
  intro y hy
  unfold brL at hy
  obtain ⟨x, _, rfl⟩ := List.mem_map.1 hy
  have h1 := brN_in x.2
  have h2 := brA_in x.1 x.2
  exact ⟨h1.1, h1.2, h2⟩
theorem brL_fine {xs : List (Int × Int)} {i : Nat} : ∀ y ∈ brL xs i, Fine 128 384 16 y := by
  intro y hy
  obtain ⟨h1, h2, h3⟩ := brL_in y hy
  exact ⟨by omega, by omega, by omega, by omega⟩
/-- Extents that were handed in. -/
def SlX (w : World) (a : Option Addr) (xs : List (Int × Int)) : Prop := (∀ x ∈ xs, (-9223372036854775808 ≤ x.1 ∧ x.1 ≤ 9223372036854775807) ∧ (-9223372036854775808 ≤ x.2 ∧ x.2 ≤ 9223372036854775807)) ∧ (xs = [] ∨ ∃ g o, a = some ⟨g, o, none⟩ ∧ g < w.heap.size ∧ ∀ (i : Nat) (x l : Int), xs[i]? = some (x, l) → w.cell? ⟨g, o + i * 2, none⟩ = some (.int .i64 x) ∧ w.cell? ⟨g, o + i * 2 + 1, none⟩ = some (.int .i64 l))
theorem SlX.below {w w' : World} {a : Option Addr} {xs : List (Int × Int)} (h : SlX w a xs) (hB : Below w.heap.size w w') : SlX w' a xs := by
  refine ⟨h.1, h.2.imp id ?_⟩
  rintro ⟨g, o, e, hg, hc⟩
  exact ⟨g, o, e, Nat.lt_of_lt_of_le hg hB.size, fun i x l hi => ⟨(hB.cell (p := ⟨g, o + i * 2, none⟩) hg).trans (hc i x l hi).1, (hB.cell (p := ⟨g, o + i * 2 + 1, none⟩) hg).trans (hc i x l hi).2⟩⟩
set_option maxHeartbeats 2000000 in
theorem ubrought_any {w : World} {ea a1 a2 : Option Addr} {xs : List (Int × Int)} {m c m1 c1 m2 c2 : Nat} {lg : Bool} (h : SlX w ea xs) (hm : xs.length = m) :
    Calls Try.prog 6 #[.agg #[.slice ea m c, .slice a1 m1 c1, .slice a2 m2 c2, .bool lg]] w fun e w' => ∃ v, e = .returned v ∧ ∃ k, k ≤ m ∧ k ≤ 5 ∧ w'.ownsRow w.heap.size 52 2 v k (exC (brL xs k)) ∧ Below w.heap.size w w' := by
  obtain ⟨i0, hi0, hz0, hz1, hz2⟩ := infoExt
  have hA : Below w.heap.size w (w.alloc (.cells #[.slice ea m c, .slice a1 m1 c1, .slice a2 m2 c2, .bool lg] 26)) := (Below.refl _ w).alloc (Nat.le_refl _) _
  have hX := heap_alloc_new w (.cells #[.slice ea m c, .slice a1 m1 c1, .slice a2 m2 c2, .bool lg] 26)
  have HH := hide h
  have HM := hide hm
  clear h hm
  go_enter Try.func6, Try.ntmps6
  go_wp2
  generalize hXX : w.alloc (.cells #[.slice ea m c, .slice a1 m1 c1, .slice a2 m2 c2, .bool lg] 26) = X at *
  have hsX : w.heap.size < X.heap.size := lt_of_heap hX
  have HA := hide hA
  have HX := hide hX
  clear hA hX hXX
  go_loopw [3, 4] (fun lv iv wr => ∃ i : Nat, iv = .int .i64 (i : Int) ∧ i ≤ m ∧ i ≤ 5 ∧ wr.ownsRow X.heap.size 52 2 lv i (exC (brL xs i)) ∧ Below X.heap.size X wr) (fun _ iv _ => (5 - (intOf iv).toNat))
  case atStart => exact ⟨0, rfl, Nat.zero_le _, Nat.zero_le _, ⟨rfl, .inl ⟨rfl, rfl⟩⟩, Below.refl _ _⟩
  case round =>
    obtain ⟨i, rfl, him, hi5, hr, hB⟩ := hrel
    have cS : wr.cell? ⟨w.heap.size, 0, none⟩ = some (.slice ea m c) := (hB.cell (p := ⟨w.heap.size, 0, none⟩) hsX).trans (cell8 HX.out 0)
    by_cases hlt : i < m
    · have iI : (i : Int) < (m : Int) := by omega
      by_cases hlt5 : i < 5
      · have iI5 : (i : Int) < 5 := by omega
        obtain ⟨x, hx⟩ : ∃ x, xs[i]? = some x := ⟨_, List.getElem?_eq_getElem (by rw [HM.out]; exact hlt)⟩
        have hxb := HH.out.1 x (List.mem_of_getElem? hx)
        have hbs := brL_succ hx
        obtain ⟨x, l⟩ := x
        obtain ⟨g, o, rfl, hg, hcc⟩ : ∃ g o, ea = some ⟨g, o, none⟩ ∧ g < w.heap.size ∧ ∀ (i : Nat) (x l : Int), xs[i]? = some (x, l) → w.cell? ⟨g, o + i * 2, none⟩ = some (.int .i64 x) ∧ w.cell? ⟨g, o + i * 2 + 1, none⟩ = some (.int .i64 l) := by
          rcases HH.out.2 with e | e
          · rw [e] at hx; simp at hx
          · exact e
        have hgr : Below w.heap.size w wr := bseq HA.out hB
        have cx : wr.cell? ⟨g, o + i * 2, none⟩ = some (.int .i64 x) := (hgr.cell (p := ⟨g, o + i * 2, none⟩) hg).trans (hcc i x l hx).1
        have cl : wr.cell? ⟨g, o + i * 2 + 1, none⟩ = some (.int .i64 l) := (hgr.cell (p := ⟨g, o + i * 2 + 1, none⟩) hg).trans (hcc i x l hx).2
        have ib := index_ext g o i m c hlt wr
        simp only at hxb
        obtain ⟨hxb, hlb⟩ := hxb
        obtain ⟨lw, hlw⟩ : ∃ lw, IntKind.i64.wrap (l - 1) = lw := ⟨_, rfl⟩
        have hlw2 : -9223372036854775808 ≤ lw ∧ lw ≤ 9223372036854775807 := by rw [← hlw, IntKind.wrap_i64]; omega
        have hN := brN_in l
        have eN : 1 + lw % 40 = brN l := by unfold brN; rw [hlw]
        have eA := brA_in x l
        have KW1 := hide (fun W => uwithin_any W lw 40 (by omega) (by omega) hlw2.1 hlw2.2)
        obtain ⟨nv, hnv⟩ : ∃ nv, brN l = nv := ⟨_, rfl⟩
        rw [hnv] at hN eN eA
        obtain ⟨av, hav⟩ : ∃ av, brA x l = av := ⟨_, rfl⟩
        rw [hav] at eA
        have hE : brE (x, l) = (av, nv) := by unfold brE; rw [hav, hnv]
        rw [hE] at hbs
        obtain ⟨lm, hlm⟩ : ∃ lm, lw % 40 = lm := ⟨_, rfl⟩
        rw [hlm] at KW1 eN
        have wn : IntKind.i64.wrap (1 + lm) = nv := by rw [eN, IntKind.wrap_i64]; omega
        have s1 : IntKind.i64.wrap (64 - nv) = 64 - nv := by rw [IntKind.wrap_i64]; omega
        have s2 : IntKind.i64.wrap (64 - nv + 1) = 65 - nv := by rw [IntKind.wrap_i64]; omega
        have s3 : IntKind.i64.wrap (512 - nv) = 512 - nv := by rw [IntKind.wrap_i64]; omega
        have s4 : IntKind.i64.wrap (512 - nv + 1) = 513 - nv := by rw [IntKind.wrap_i64]; omega
        have KW2 := hide (fun W => uwithin_any W x (65 - nv) (by omega) (by omega) hxb.1 hxb.2)
        have KW3 := hide (fun W => uwithin_any W x (513 - nv) (by omega) (by omega) hxb.1 hxb.2)
        have e3 : 0 ≤ x % (65 - nv) := Int.emod_nonneg _ (by omega)
        have e4 : x % (65 - nv) < 65 - nv := Int.emod_lt_of_pos _ (by omega)
        have e5 : 0 ≤ x % (513 - nv) := Int.emod_nonneg _ (by omega)
        have e6 : x % (513 - nv) < 513 - nv := Int.emod_lt_of_pos _ (by omega)
        have hav2 := hav
        unfold brA at hav2
        rw [hnv] at hav2
        generalize x % (65 - nv) = q1 at *
        generalize x % (513 - nv) = q2 at *
        have s5 : IntKind.i64.wrap (64 + q1) = 64 + q1 := by rw [IntKind.wrap_i64]; omega
        have s6 : IntKind.i64.wrap (512 + q2) = 512 + q2 := by rw [IntKind.wrap_i64]; omega
        have HBS := hide hbs
        have HR := hide hr
        have HB := hide hB
        have M1 := hide trivial
        have M2 := hide trivial
        have HAV := hav2
        clear hbs hr hB hgr hcc hg hx hE hlm hav hnv eA hlw2 hav2
        by_cases hf1 : 256 ≤ x
        · rw [if_pos (.inl hf1)] at HAV
          subst HAV
          have u9 : True := trivial
          have hA1 : Below wr.heap.size wr (wr.alloc (.cells #[.int .i64 (512 + q2), .int .i64 nv] 52)) := (Below.refl _ wr).alloc (Nat.le_refl _) _
          have HO1 := hide (own_below HR.out hA1)
          have HB1 := hide (bseq HB.out hA1)
          have hsz1 : X.heap.size ≤ (wr.alloc (.cells #[.int .i64 (512 + q2), .int .i64 nv] 52)).heap.size := HB1.out.size
          clear hA1
          go_wp2_with (first
            | (go_at_call 25; clear M1; refine (KW1.out _).mono ?_; rintro e w' ⟨rfl, hw⟩; obtain rfl := hw.symm)
            | (go_at_call 25; clear M2; refine (KW2.out _).mono ?_; rintro e w' ⟨rfl, hw⟩; obtain rfl := hw.symm)
            | (go_at_call 25; refine (KW3.out _).mono ?_; rintro e w' ⟨rfl, hw⟩; obtain rfl := hw.symm)
            | (at_builtin; refine wpList_append_own_at _ rfl _ _ 22 rfl X.heap.size 52 i0 (.agg #[.int .i64 0, .int .i64 0]) 2 16 Try.underlying22 hi0 hz0 hz1 hz2 rfl (by decide) u3 i (exC (brL xs i)) rfl HO1.out ⟨wr.heap.size, 0, none⟩ 1 1 [.int .i64 (512 + q2), .int .i64 nv] rfl rfl (cell_twoU wr _ _ _) (by simp [Value.oneCell']) (by unfold maxLen; omega) (by omega) hsz1 ?_
               intro v1 x1 ho3 hg3 hnn hat; clear hnn hat
               have HO3 := hide ho3
               have HB3 := hide (bel_of_grownT HB1.out HO1.out hg3)
               clear ho3 hg3))
          first | go_roundw | skip
          all_goals first
            | exact ⟨⟨i + 1, int_congrP (by omega), by omega, by omega, by rw [HBS.out, exC_snoc]; exact HO3.out, HB3.out⟩, by simp [intOf]; omega⟩
            | exact ⟨i + 1, int_congrP (by omega), by omega, by omega, by rw [HBS.out, exC_snoc]; exact HO3.out, HB3.out⟩
            | (simp [intOf]; omega)
        · by_cases hf2 : x < 0
          · rw [if_pos (.inr hf2)] at HAV
            subst HAV
            have u9 : True := trivial
            have hA1 : Below wr.heap.size wr (wr.alloc (.cells #[.int .i64 (512 + q2), .int .i64 nv] 52)) := (Below.refl _ wr).alloc (Nat.le_refl _) _
            have HO1 := hide (own_below HR.out hA1)
            have HB1 := hide (bseq HB.out hA1)
            have hsz1 : X.heap.size ≤ (wr.alloc (.cells #[.int .i64 (512 + q2), .int .i64 nv] 52)).heap.size := HB1.out.size
            clear hA1
            go_wp2_with (first
              | (go_at_call 25; clear M1; refine (KW1.out _).mono ?_; rintro e w' ⟨rfl, hw⟩; obtain rfl := hw.symm)
              | (go_at_call 25; clear M2; refine (KW2.out _).mono ?_; rintro e w' ⟨rfl, hw⟩; obtain rfl := hw.symm)
              | (go_at_call 25; refine (KW3.out _).mono ?_; rintro e w' ⟨rfl, hw⟩; obtain rfl := hw.symm)
              | (at_builtin; refine wpList_append_own_at _ rfl _ _ 22 rfl X.heap.size 52 i0 (.agg #[.int .i64 0, .int .i64 0]) 2 16 Try.underlying22 hi0 hz0 hz1 hz2 rfl (by decide) u3 i (exC (brL xs i)) rfl HO1.out ⟨wr.heap.size, 0, none⟩ 1 1 [.int .i64 (512 + q2), .int .i64 nv] rfl rfl (cell_twoU wr _ _ _) (by simp [Value.oneCell']) (by unfold maxLen; omega) (by omega) hsz1 ?_
                 intro v1 x1 ho3 hg3 hnn hat; clear hnn hat
                 have HO3 := hide ho3
                 have HB3 := hide (bel_of_grownT HB1.out HO1.out hg3)
                 clear ho3 hg3))
            first | go_roundw | skip
            all_goals first
              | exact ⟨⟨i + 1, int_congrP (by omega), by omega, by omega, by rw [HBS.out, exC_snoc]; exact HO3.out, HB3.out⟩, by simp [intOf]; omega⟩
              | exact ⟨i + 1, int_congrP (by omega), by omega, by omega, by rw [HBS.out, exC_snoc]; exact HO3.out, HB3.out⟩
              | (simp [intOf]; omega)
          · rw [if_neg (by omega)] at HAV
            subst HAV
            have u9 : True := trivial
            have hA1 : Below wr.heap.size wr (wr.alloc (.cells #[.int .i64 (64 + q1), .int .i64 nv] 52)) := (Below.refl _ wr).alloc (Nat.le_refl _) _
            have HO1 := hide (own_below HR.out hA1)
            have HB1 := hide (bseq HB.out hA1)
            have hsz1 : X.heap.size ≤ (wr.alloc (.cells #[.int .i64 (64 + q1), .int .i64 nv] 52)).heap.size := HB1.out.size
            clear hA1
            go_wp2_with (first
              | (go_at_call 25; clear M1; refine (KW1.out _).mono ?_; rintro e w' ⟨rfl, hw⟩; obtain rfl := hw.symm)
              | (go_at_call 25; clear M2; refine (KW2.out _).mono ?_; rintro e w' ⟨rfl, hw⟩; obtain rfl := hw.symm)
              | (at_builtin; refine wpList_append_own_at _ rfl _ _ 22 rfl X.heap.size 52 i0 (.agg #[.int .i64 0, .int .i64 0]) 2 16 Try.underlying22 hi0 hz0 hz1 hz2 rfl (by decide) u3 i (exC (brL xs i)) rfl HO1.out ⟨wr.heap.size, 0, none⟩ 1 1 [.int .i64 (64 + q1), .int .i64 nv] rfl rfl (cell_twoU wr _ _ _) (by simp [Value.oneCell']) (by unfold maxLen; omega) (by omega) hsz1 ?_
                 intro v1 x1 ho3 hg3 hnn hat; clear hnn hat
                 have HO3 := hide ho3
                 have HB3 := hide (bel_of_grownT HB1.out HO1.out hg3)
                 clear ho3 hg3))
            first | go_roundw | skip
            all_goals first
              | exact ⟨⟨i + 1, int_congrP (by omega), by omega, by omega, by rw [HBS.out, exC_snoc]; exact HO3.out, HB3.out⟩, by simp [intOf]; omega⟩
              | exact ⟨i + 1, int_congrP (by omega), by omega, by omega, by rw [HBS.out, exC_snoc]; exact HO3.out, HB3.out⟩
              | (simp [intOf]; omega)
      · have iI5 : ¬ (i : Int) < 5 := by omega
        go_wp2
        go_ret
        exact ⟨_, rfl, i, him, hi5, hr.mono (by omega), bseq HA.out hB⟩
    · have iI : ¬ (i : Int) < (m : Int) := by omega
      go_wp2
      go_ret
      exact ⟨_, rfl, i, him, hi5, hr.mono (by omega), bseq HA.out hB⟩
end Go.Proofs.Ytgfgihpkbbjkfaa
namespace Go.Proofs.Ytgfgihpkbbjkfaa
open Go.ChangeShapes Go.WideShapes Go.ChangeAt Go.RowKit
set_option linter.unusedVariables false
set_option maxRecDepth 100000

theorem ext_cells {H : Type} {enc : TypeId × Value → H} {W : World} {fuel : Nat} {cs : List Value} {x : DataW H × List MemPlace}
    (h : DataW.trod enc Try.prog W 0 (fun _ => true) true fuel 52 cs = some x) :
    ∃ (a : Int × Int), cs = [.int .i64 a.1, .int .i64 a.2] ∧ ((-9223372036854775808 ≤ a.1 ∧ a.1 ≤ 9223372036854775807) ∧ (-9223372036854775808 ≤ a.2 ∧ a.2 ≤ 9223372036854775807)) := by
  obtain ⟨xs, n, _, hx, hl, hlen, hf⟩ := DataW.trod_struct Try.underlying52 h
  rw [show Try.prog.cellsOf 52 = 2 by kernel_rfl] at hl
  match cs, hl with
  | [c0, c1], _ =>
    match xs, hlen with
    | [y0, y1], _ =>
      have h0 := hf 0 _ rfl
      have h1 := hf 1 _ rfl
      simp [show Try.prog.cellsOf 3 = 1 by kernel_rfl] at h0 h1
      obtain ⟨z0, e0, _, w0⟩ := DataW.trod_int Try.underlying3 h0
      obtain ⟨z1, e1, _, w1⟩ := DataW.trod_int Try.underlying3 h1
      simp at e0 e1
      subst e0 e1
      exact ⟨(z0, z1), rfl, bounds_i64 w0, bounds_i64 w1⟩
theorem slice_form {H : Type} {enc : TypeId × Value → H} {W : World} {fuel : Nat} {t e : TypeId} {v : Value} {x : DataW H × List MemPlace} (ht : Try.prog.underlying t = some (.slice e)) (h : DataW.trod enc Try.prog W 0 (fun _ => true) true fuel t [v] = some x) : ∃ a l c, v = .slice a l c := by
  rcases Go.Deep.open_slice ht h with ⟨hcs, _⟩ | ⟨ad, l, c, m, n, D, Pl, hcs, _⟩
  · simp at hcs; exact ⟨none, 0, 0, hcs⟩
  · simp at hcs; exact ⟨some ad, l, c, hcs⟩
theorem story_cells {H : Type} {enc : TypeId × Value → H} {W : World} {fuel : Nat} {cs : List Value} {x : DataW H × List MemPlace}
    (h : DataW.trod enc Try.prog W 0 (fun _ => true) true fuel 26 cs = some x) :
    ∃ (a a1 a2 : Option Addr) (m c m1 c1 m2 c2 : Nat) (lg : Bool) (xs : List (Int × Int)), cs = [.slice a m c, .slice a1 m1 c1, .slice a2 m2 c2, .bool lg] ∧ SlX W a xs ∧ xs.length = m := by
  obtain ⟨xs, n, _, hx, hl, hlen, hf⟩ := DataW.trod_struct Try.underlying26 h
  rw [show Try.prog.cellsOf 26 = 4 by kernel_rfl] at hl
  match cs, hl with
  | [v0, v1, v2, v3], _ =>
    match xs, hlen with
    | [y0, y1, y2, y3], _ =>
      have h0 := hf 0 _ rfl
      have h1 := hf 1 _ rfl
      have h2 := hf 2 _ rfl
      have h3 := hf 3 _ rfl
      simp [show Try.prog.cellsOf 22 = 1 by kernel_rfl, show Try.prog.cellsOf 23 = 1 by kernel_rfl, show Try.prog.cellsOf 24 = 1 by kernel_rfl, show Try.prog.cellsOf 4 = 1 by kernel_rfl] at h0 h1 h2 h3
      obtain ⟨a, m, c, rfl⟩ := slice_form Try.underlying22 h0
      obtain ⟨a1, m1, c1, rfl⟩ := slice_form Try.underlying23 h1
      obtain ⟨a2, m2, c2, rfl⟩ := slice_form Try.underlying24 h2
      obtain ⟨lg, e3, _⟩ := DataW.trod_bool Try.underlying4 h3
      simp at e3
      subst e3
      obtain ⟨es, hel, hrow, hq, _⟩ := open_row (fun (p : Int × Int) => [.int .i64 p.1, .int .i64 p.2]) (fun p (_ : DataW H) => (-9223372036854775808 ≤ p.1 ∧ p.1 ≤ 9223372036854775807) ∧ (-9223372036854775808 ≤ p.2 ∧ p.2 ≤ 9223372036854775807)) (fun _ => 0) Try.underlying22 (sz := 2) (by kernel_rfl) (by omega) (fun _ => rfl) (fun fuel cs x hh => by obtain ⟨p, e1, e2⟩ := ext_cells hh; exact ⟨p, e1, e2, Nat.zero_le _⟩) h0
      refine ⟨a, a1, a2, m, c, m1, c1, m2, c2, lg, es, rfl, ⟨fun x hx => by obtain ⟨d, hd⟩ := hq x hx; exact hd, ?_⟩, hel.symm⟩
      rcases hrow with h5 | ⟨g, o, e, hg, hc⟩
      · exact .inl h5
      · refine .inr ⟨g, o, e, hg, fun i x l hi => ⟨?_, ?_⟩⟩
        · have := hc i (x, l) hi 0 _ rfl
          simpa using this
        · exact hc i (x, l) hi 1 _ rfl
theorem open_story {H : Type} {enc : TypeId × Value → H} {W : World} {r : Reach} {b0 : Nat} {v : Value} {d : DataW H} {p : List MemPlace}
    (hv : Value.okWide Try.prog W r b0 26 v) (h : DataW.Trod enc Try.prog W 0 (fun _ => true) true 26 v d p) :
    ∃ (a a1 a2 : Option Addr) (m c m1 c1 m2 c2 : Nat) (lg : Bool) (xs : List (Int × Int)), v = .agg #[.slice a m c, .slice a1 m1 c1, .slice a2 m2 c2, .bool lg] ∧ SlX W a xs ∧ xs.length = m := by
  obtain ⟨cs, rfl, hsz⟩ := okWide_struct Try.underlying26 hv
  obtain ⟨fuel, hf⟩ := h
  obtain ⟨a, a1, a2, m, c, m1, c1, m2, c2, lg, xs, e5, hb⟩ := story_cells hf
  refine ⟨a, a1, a2, m, c, m1, c1, m2, c2, lg, xs, ?_, hb⟩
  have e' : cs.toList = [.slice a m c, .slice a1 m1 c1, .slice a2 m2 c2, .bool lg] := by simpa [Value.cells] using e5
  rw [← Array.toArray_toList (xs := cs), e']
end Go.Proofs.Ytgfgihpkbbjkfaa
namespace Go.Proofs.Ytgfgihpkbbjkfaa
open Go.ChangeShapes Go.WideShapes Go.ChangeAt Go.RowKit
set_option linter.unusedVariables false
theorem trod_len {H : Type} {enc : TypeId × Value → H} {W : World} {t e : TypeId} {a : Option Addr} {l c : Nat} {d : DataW H} {p : List MemPlace} (ht : Try.prog.underlying t = some (.slice e)) (h : DataW.Trod enc Try.prog W 0 (fun _ => true) true t (.slice a l c) d p)
    (hz : ∀ el sp, d = .slice el sp → (el.length + sp.length) * Try.prog.bytesOf e ≤ reachBytes) : l * Try.prog.bytesOf e ≤ reachBytes := by
  obtain ⟨fuel, hf⟩ := h
  have hf : DataW.trod enc Try.prog W 0 (fun _ => true) true fuel t [.slice a l c] = some (d, p) := by simpa [Value.cells] using hf
  rcases Go.Deep.open_slice ht hf with ⟨hcs, hx0⟩ | ⟨ad, l', c', m, n, D, Pl, hcs, _, hl, hm, hmm, hx, hele⟩
  · simp at hcs
    obtain ⟨rfl, rfl, rfl⟩ := hcs
    simp
  · simp at hcs
    obtain ⟨rfl, rfl, rfl⟩ := hcs
    simp only [Prod.mk.injEq] at hx
    have h5 := hz _ _ hx.1
    simp only [List.length_map, List.length_range] at h5
    exact Nat.le_trans (Nat.mul_le_mul_right _ (Nat.le_add_right _ _)) h5
theorem len_nums {l : Nat} (h : l * Try.prog.bytesOf 3 ≤ reachBytes) : l ≤ 17592186043904 := by
  have e : Try.prog.bytesOf 3 = 8 := by kernel_rfl
  have e2 : reachBytes = 140737488351232 := by decide
  rw [e, e2] at h; omega
theorem open_keepV {H : Type} {enc : TypeId × Value → H} {W : World} {v : Value} {d : DataW H} {p : List MemPlace} (h : DataW.Trod enc Try.prog W 0 (fun _ => true) true 87 v d p) (hv : ∃ a l c, v = .slice a l c) :
    ∃ (a : Option Addr) (nk c : Nat) (zs : List Int), v = .slice a nk c ∧ SlZ W a zs ∧ zs.length = nk ∧ nk ≤ c ∧ (a = none → zs = [] ∧ c = 0) := by
  obtain ⟨a, l, c, rfl⟩ := hv
  obtain ⟨fuel, hf⟩ := h
  have hf : DataW.trod enc Try.prog W 0 (fun _ => true) true fuel 87 [.slice a l c] = some (d, p) := by simpa [Value.cells] using hf
  rcases open_ints Try.underlying87 Try.underlying3 (by kernel_rfl) hf with ⟨hcs, hx0⟩ | ⟨ad, l', cap, zs, hcs, _, hl, hm, hzl, hx, hcell, hwz⟩
  · simp at hcs
    obtain ⟨rfl, rfl, rfl⟩ := hcs
    exact ⟨none, 0, 0, [], rfl, ⟨by simp, .inl rfl⟩, rfl, Nat.le_refl _, fun _ => ⟨rfl, rfl⟩⟩
  · simp at hcs
    obtain ⟨rfl, rfl, rfl⟩ := hcs
    simp only [if_true] at hzl
    have htl : (zs.take l).length = l := by rw [List.length_take]; omega
    refine ⟨some ad, l, c, zs.take l, rfl, ⟨fun z hz => bounds_i64 (hwz z (List.mem_of_mem_take hz)), ?_⟩, htl, hl, ?_⟩
    · by_cases h0 : l = 0
      · subst h0; exact .inl (by simp)
      · obtain ⟨b, off, spot⟩ := ad
        have hc := hcell 0 (by omega)
        have hspot : spot = none := by simpa [Addr.add] using World.cell?_spot hc
        subst hspot
        refine .inr ⟨b, off, rfl, World.block_lt_of_cell? _ _ hc, fun i y hy => ?_⟩
        have hi : i < l := by
          have := (List.getElem?_eq_some_iff.1 hy).1
          omega
        rw [List.getElem?_take, if_pos hi] at hy
        have h1 := hcell i (by omega)
        have e : (⟨b, off, none⟩ : Addr).add i = ⟨b, off + i, none⟩ := by simp [Addr.add]
        rw [e] at h1
        rw [h1, List.getD_eq_getElem?_getD, hy]
        rfl
    · intro h; cases h
end Go.Proofs.Ytgfgihpkbbjkfaa
namespace Go.Proofs.Ytgfgihpkbbjkfaa
open Go.RowKit Go.Shelf
set_option linter.unusedVariables false
set_option maxRecDepth 100000

/-- An operation that keeps what holds of every content of a line. -/
def EvF (N i : Nat) (P : List Nat → Prop) (f : St → St) : Prop := ∀ σ : St, σ.Ok → σ.n = N → Every σ i P → Every (f σ) i P
theorem acts_every {N i : Nat} {P : List Nat → Prop} : ∀ (fs : List (St → St)) (σ : St), (∀ f ∈ fs, GoodF N f) → (∀ f ∈ fs, EvF N i P f) → σ.Ok → σ.n = N → σ.ops + fs.length ≤ 1400000000000 → Every σ i P → Every (acts fs σ) i P
  | [], σ, _, _, _, _, _, h => h
  | f :: fs, σ, hg, he, hok, hn, ho, h => by
    rw [List.length_cons] at ho
    have h1 := (hg f (by simp) σ hok hn (by omega)).1
    have e1 := h1.ops
    have h2 : Every (tick (f σ)) i P := he f (by simp) σ hok hn h
    exact acts_every fs (tick (f σ)) (fun g hg' => hg g (by simp [hg'])) (fun g hg' => he g (by simp [hg'])) h1.ok (h1.n.trans hn) (by omega) h2
/-- What the power leaves of a line. -/
theorem run_every {N i : Nat} {P : List Nat → Prop} {fs : List (St → St)} {σ s : St} (hg : ∀ f ∈ fs, GoodF N f) (he : ∀ f ∈ fs, EvF N i P f) (hok : σ.Ok) (hn : σ.n = N) (ho : σ.ops + fs.length ≤ 1400000000000) (hi : i < N) (h : Every σ i P) (hr : RunD fs σ 5 s) : P (s.line i) := by
  rcases hr with ⟨e, _⟩ | ⟨_, _, pre, f, post, rfl, hop⟩
  · cases e
  · rw [List.length_append, List.length_cons] at ho
    have hg1 : ∀ g ∈ pre, GoodF N g := fun g hg' => hg g (by simp [hg'])
    have h1 := acts_every pre σ hg1 (fun g hg' => he g (by simp [hg'])) hok hn (by omega) h
    have hl := acts_like pre σ hg1 hok hn (by omega)
    have h2 := he f (by simp) (acts pre σ) hl.ok (hl.n.trans hn) h1
    have e0 := hl.ops
    have h3 := (hg f (by simp) (acts pre σ) hl.ok (hl.n.trans hn) (by omega)).1
    have h4 : (f (acts pre σ)).n = N := h3.n.trans (hl.n.trans hn)
    rcases hop with ⟨_, e, _⟩ | ⟨af, kp, rest, har, ⟨_, e, _⟩ | ⟨_, _, hL⟩⟩
    · cases e
    · cases e
    · exact Every.lost (P := P) hL (by show i < (f (acts pre σ)).n; omega) h2
/-- What is the same of a device that the power left. -/
theorem run_len {N : Nat} {fs : List (St → St)} {σ s : St} (hg : ∀ f ∈ fs, GoodF N f) (hok : σ.Ok) (hn : σ.n = N) (ho : σ.ops + fs.length ≤ 1400000000000) (hr : RunD fs σ 5 s) : s.n = N ∧ s.bytes.length = 64 * N ∧ (∀ j, s.past j = []) ∧ s.off = true ∧ s.arms = σ.arms.tail ∧ s.cnt = 0 ∧ s.ops ≤ σ.ops + fs.length ∧ s.Ok := by
  rcases hr with ⟨e, _⟩ | ⟨_, _, pre, f, post, rfl, hop⟩
  · cases e
  · rw [List.length_append, List.length_cons] at ho ⊢
    have hl := acts_like pre σ (fun g hg' => hg g (by simp [hg'])) hok hn (by omega)
    have e0 := hl.ops
    have h3 := (hg f (by simp) (acts pre σ) hl.ok (hl.n.trans hn) (by omega)).1
    have h4 : (f (acts pre σ)).n = N := h3.n.trans (hl.n.trans hn)
    have h5 : (f (acts pre σ)).ops + 1 = (acts pre σ).ops + 1 := h3.ops
    have hk := h3.ok
    rcases hop with ⟨_, e, _⟩ | ⟨af, kp, rest, har, ⟨_, e, _⟩ | ⟨_, _, hL⟩⟩
    · cases e
    · cases e
    · have hokL : St.Ok { f (acts pre σ) with ops := (f (acts pre σ)).ops + 1, arms := rest, cnt := 0 } := ⟨hk.pos, hk.max, hk.len, hk.byte, hk.out, hk.clen, hk.cbyte, hk.few, hk.flp, hk.opsm⟩
      refine ⟨hL.n.trans h4, by rw [hL.len]; show 64 * (f (acts pre σ)).n = _; rw [h4], fun j => by rw [hL.past], hL.off, ?_, hL.cnt, ?_, Lost.ok hokL hL⟩
      · rw [hL.arms]
        have e2 := (hg f (by simp) (acts pre σ) hl.ok (hl.n.trans hn) (by omega)).2
        rw [← hl.arms, ← e2, har]
        rfl
      rw [hL.ops]
      show (f (acts pre σ)).ops + 1 ≤ _
      omega
theorem RunD.split {N : Nat} {xs ys : List (St → St)} {σ s : St} (hg : ∀ f ∈ xs, GoodF N f) (hok : σ.Ok) (hn : σ.n = N) (ho : σ.ops + xs.length ≤ 1400000000000) (h : RunD (xs ++ ys) σ 5 s) : RunD xs σ 5 s ∨ RunD ys (acts xs σ) 5 s := by
  have hl := acts_like xs σ hg hok hn ho
  rcases h with ⟨e, _⟩ | ⟨_, ha, pre, f, post, e, hop⟩
  · cases e
  · have ha' : (acts xs σ).arms ≠ [] := by rw [hl.arms]; exact ha
    rcases List.append_eq_append_iff.1 e with ⟨us, h1, h2⟩ | ⟨cs, h1, h2⟩
    · subst h1 h2
      exact .inr (.inr ⟨rfl, ha', us, f, post, rfl, by rw [← acts_append]; exact hop⟩)
    · cases cs with
      | nil =>
        simp at h1 h2
        subst h1 h2
        exact .inr (.inr ⟨rfl, ha', [], f, post, rfl, hop⟩)
      | cons g cs =>
        simp at h2
        obtain ⟨rfl, rfl⟩ := h2
        exact .inl (.inr ⟨rfl, ha, pre, f, cs, h1, hop⟩)
theorem evf_word {N i no : Nat} {P : List Nat → Prop} {bs : List Nat} {at_ : Nat} (hi : i < N) (hno : no / 8 < N) (hne : no / 8 ≠ i) : EvF N i P (fun s => wordA bs at_ s no) := fun σ hok hn h =>
  Every.word (bs := bs) (at_ := at_) (no := no) hok (by omega) (by omega) h (fun e => absurd e.symm hne)
theorem evf_fl {N i : Nat} {P : List Nat → Prop} (ls : List Nat) : ∀ f ∈ fls ls, EvF N i P f := by
  intro f hf
  obtain ⟨l, _, rfl⟩ := List.mem_map.1 hf
  exact fun σ _ _ h => Every.flush (i := l) h
theorem evf_fn {N i : Nat} {P : List Nat → Prop} : EvF N i P fnA := fun σ _ _ h => (Every.fence h : Every (fenceDo σ) i P)
theorem evf_rng {N i : Nat} {P : List Nat → Prop} (at_ n : Nat) : ∀ f ∈ rngF at_ n, EvF N i P f := by
  intro f hf
  rcases List.mem_append.1 hf with h | h
  · exact evf_fl _ f h
  · rw [List.mem_singleton.1 h]
    exact evf_fn
theorem mem_wordsOf {at_ n no : Nat} (h : at_ + n ≤ 4194304) (hno : no ∈ wordsOf at_ n) : at_ / 8 ≤ no ∧ no * 8 < at_ + n := by
  rw [wordsOf_eq at_ n h] at hno
  split at hno
  · cases hno
  · obtain ⟨i, hi, rfl⟩ := List.mem_map.1 hno
    have := List.mem_range.1 hi
    omega
theorem evf_wds {N i : Nat} {P : List Nat → Prop} {bs cs : List Nat} {at_ : Nat} (hi : i < N) (hN : N ≤ 65536) (hl : at_ + bs.length ≤ 64 * N) (ho : 64 * i + 64 ≤ at_ ∨ at_ + bs.length ≤ 64 * i) : ∀ f ∈ wds cs at_ (wordsOf at_ bs.length), EvF N i P f := by
  intro f hf
  obtain ⟨no, hno, rfl⟩ := List.mem_map.1 hf
  obtain ⟨h1, h2⟩ := mem_wordsOf (by omega) hno
  exact evf_word hi (by omega) (by omega)
theorem evf_recs {N i : Nat} {P : List Nat → Prop} {B : List Nat} (hi : i < N) (hN : N ≤ 65536) : ∀ (xs : List (Int × Int)) (at_ : Nat), at_ + (recsB B xs).length ≤ 64 * N → (64 * i + 64 ≤ at_ ∨ at_ + (recsB B xs).length ≤ 64 * i) → ∀ f ∈ recsF B at_ xs, EvF N i P f
  | [], at_, _, _, f, hf => by cases hf
  | x :: t, at_, hl, ho, f, hf => by
    have e : recsB B (x :: t) = recOf B x ++ recsB B t := rfl
    rw [e, List.length_append] at hl ho
    rcases List.mem_append.1 hf with h | h
    · exact evf_wds hi hN (by omega) (by omega) f h
    · exact evf_recs hi hN t _ (by omega) (by omega) f h
theorem recs_good {N : Nat} {B : List Nat} (hb : ∀ y ∈ B, y < 256) (hN : N ≤ 65536) : ∀ (xs : List (Int × Int)) (at_ : Nat), at_ + (recsB B xs).length ≤ 64 * N → ∀ f ∈ recsF B at_ xs, GoodF N f
  | [], at_, _, f, hf => by cases hf
  | x :: t, at_, hl, f, hf => by
    have e : recsB B (x :: t) = recOf B x ++ recsB B t := rfl
    rw [e, List.length_append] at hl
    rcases List.mem_append.1 hf with h | h
    · exact wds_good (rec_lt hb) (wordsOf_lt (m := N) (by omega) (by omega)) f h
    · exact recs_good hb hN t _ (by omega) f h
/-- Lines that were flushed have one content behind the Fence. -/
theorem fls_due : ∀ (ls : List Nat) (σ : St) (j : Nat), (j ∈ ls ∨ Due σ j) → Due (acts (fls ls) σ) j
  | [], σ, j, h => h.resolve_left (by simp)
  | i :: ls, σ, j, h => by
    refine fls_due ls (tick (flA σ i)) j ?_
    rcases h with h | h
    · rcases List.mem_cons.1 h with h | h
      · exact .inr (Due.flush (.inl h))
      · exact .inl h
    · exact .inr (Due.flush (.inr h))
theorem rng_one {N at_ n j : Nat} {σ : St} (hok : σ.Ok) (hn : σ.n = N) (ho : σ.ops + (rngF at_ n).length ≤ 1400000000000) (hj : j ∈ linesOf at_ n) : (acts (rngF at_ n) σ).past j = [] := by
  have hd := fls_due (linesOf at_ n) σ j (.inl hj)
  have e : (rngF at_ n).length = (fls (linesOf at_ n)).length + 1 := by unfold rngF; simp
  have hl := acts_like (N := N) (fls (linesOf at_ n)) σ (fls_good _) hok hn (by omega)
  unfold rngF
  rw [acts_append]
  exact fence_one hd (fun k hk => (hl.ok.flp _ k hk).2)
/-- Publish, where each line has one content: all of the word, or nothing. -/
theorem pub_lost {N v a : Nat} {σ s : St} (hok : σ.Ok) (hn : σ.n = N) (hE : ∀ i, i < N → Every σ i (· = σ.line i)) (ha6 : a % 64 = 0) (hal : a + 8 ≤ 64 * N) (hops : σ.ops + 1000000 ≤ 1400000000000) (hr : RunD (pubF v a) σ 5 s) : s.bytes = σ.bytes ∨ s.bytes = splice σ.bytes a (leB 8 v) := by
  have hmx := hok.max
  have p1 := pub_few (v := v) (at_ := a) (by omega)
  have hg := pub_good (N := N) (v := v) (at_ := a) hal (by omega)
  have h8 : (leB 8 v).length = 8 := leB_length 8 v
  have hbl : σ.bytes.length = 64 * N := by rw [hok.len, hn]
  have ew : wordsOf a 8 = [a / 8] := words1 (by omega) (by omega)
  have hsl : (splice σ.bytes a (leB 8 v)).length = 64 * N := (splice_len _ _ _ (by omega)).trans hbl
  obtain ⟨q1, q2, _⟩ := run_len hg hok hn (by omega) hr
  have ho : ∀ i, i < N → i ≠ a / 64 → s.line i = σ.line i := fun i hi hne => by
    refine run_every (P := fun c => c = σ.line i) hg ?_ hok hn (by omega) hi (hE i hi) hr
    intro f hf
    unfold pubF at hf
    rcases List.mem_append.1 hf with h | h
    · rw [ew] at h
      obtain ⟨no, hno, rfl⟩ := List.mem_map.1 h
      rw [List.mem_singleton.1 hno]
      exact evf_word hi (by omega) (by omega)
    · rcases List.mem_append.1 h with h | h
      · exact evf_fl _ f h
      · rw [List.mem_singleton.1 h]
        exact evf_fn
  have hll : (σ.line (a / 64)).length = 64 := line_len hok (by omega)
  have hne2 : splice (splice (σ.line (a / 64)) 0 (leB 8 v)) 0 (leB 8 v) = splice (σ.line (a / 64)) 0 (leB 8 v) := by
    simp [splice, h8]
  have hn1 : s.line (a / 64) = σ.line (a / 64) ∨ s.line (a / 64) = splice (σ.line (a / 64)) 0 (leB 8 v) := by
    refine run_every (P := fun c => c = σ.line (a / 64) ∨ c = splice (σ.line (a / 64)) 0 (leB 8 v)) hg ?_ hok hn (by omega) (by omega) ((hE (a / 64) (by omega)).mono (fun c hc => .inl hc)) hr
    intro f hf
    unfold pubF at hf
    rcases List.mem_append.1 hf with h | h
    · rw [ew] at h
      obtain ⟨no, hno, rfl⟩ := List.mem_map.1 h
      rw [List.mem_singleton.1 hno]
      intro τ hτ hτn hE2
      have e8 : a / 8 / 8 = a / 64 := by omega
      refine Every.word (bs := leB 8 v) (at_ := a) (no := a / 8) hτ (by omega) (by omega) hE2 (fun _ => .inr ?_)
      have em : max a (a / 8 * 8) = a := by omega
      rw [em, e8, ha6, Nat.sub_self, List.drop_zero, show a % 8 = 0 by omega, List.take_of_length_le (by omega)]
      rcases hE2.1 with h1 | h1
      · rw [h1]
      · rw [h1]
        exact hne2
    · rcases List.mem_append.1 h with h | h
      · exact evf_fl _ f h
      · rw [List.mem_singleton.1 h]
        exact evf_fn
  rcases hn1 with h | h
  · left
    refine bytes_of_lines q2 hbl (fun j hj => ?_)
    by_cases e : j = a / 64
    · rw [e]; exact h
    · exact ho j hj e
  · right
    refine bytes_of_lines q2 hsl (fun j hj => ?_)
    by_cases e : j = a / 64
    · rw [e]
      refine Eq.trans h ?_
      refine List.ext_getElem? fun k => ?_
      rw [splice_get (σ.line (a / 64)) _ 0 k (by omega), List.getElem?_take, if_neg (show ¬ k < 0 by omega)]
      by_cases hk : k < 64
      · rw [if_pos hk, List.getElem?_drop, splice_get σ.bytes _ a _ (by omega), if_neg (show ¬ 64 * (a / 64) + k < a by omega)]
        by_cases h2 : k < 8
        · rw [if_pos (show k < 0 + (leB 8 v).length by omega), if_pos (show 64 * (a / 64) + k < a + (leB 8 v).length by omega)]
          congr 1
          omega
        · rw [if_neg (show ¬ k < 0 + (leB 8 v).length by omega), if_neg (show ¬ 64 * (a / 64) + k < a + (leB 8 v).length by omega), line_get hk]
      · rw [if_neg hk, if_neg (show ¬ k < 0 + (leB 8 v).length by omega), List.getElem?_eq_none (by omega)]
    · refine Eq.trans (ho j hj e) ?_
      exact (other_line (at_ := a) hbl (by omega) (by omega) e).symm
/-- What a Write leaves that the power left: the lines beside the records are as they were, or all was done. -/
theorem wr_lost {a z N : Nat} {B : List Nat} {xs : List (Int × Int)} {σ s : St} (hσ : σ.Ok) (hN : σ.n = N) (hB : B = σ.bytes) (hp : ∀ j, σ.past j = []) (hx : ∀ y ∈ xs, Fine a z N y) (hroom : (recsB B xs).length ≤ z - 64) (hz : 64 ≤ z) (haz : a + z ≤ 64 * N) (ha6 : a % 64 = 0) (hops : σ.ops + 30000000 ≤ 1400000000000) (hml : xs.length ≤ 4194304) (hr : RunD (wrF B a xs) σ 5 s) :
    (∀ i, i < N → (64 * i + 64 ≤ a + 64 ∨ a + z ≤ 64 * i) → s.line i = σ.line i) ∨ s.bytes = splice (splice B (a + 64) (recsB B xs)) a (leB 8 xs.length) := by
  have hmx := hσ.max
  have hB64 : B.length = 64 * N := by rw [hB, hσ.len, hN]
  have hb256 : ∀ y ∈ B, y < 256 := by rw [hB]; exact hσ.byte
  obtain ⟨R, hf⟩ := Recs.whole hσ hN hB hx hroom hz haz (by omega)
  have hro := R.like.ops
  have hrn := R.like.n
  have g0 := recs_good (N := N) (B := B) hb256 (by omega) xs (a + 64) (by omega)
  have r1 := rng_few (at_ := a + 64) (n := (recsB B xs).length) (by omega)
  have g1 := rng_good (N := N) (a + 64) (recsB B xs).length
  have l1 := acts_like (N := N) (rngF (a + 64) (recsB B xs).length) (acts (recsF B (a + 64) xs) σ) g1 R.like.ok (hrn.trans hN) (by omega)
  have o1 := l1.ops
  have n1 := l1.n
  have b1 := rng_bytes (a + 64) (recsB B xs).length (acts (recsF B (a + 64) xs) σ)
  have hE0 : ∀ i, Every σ i (· = σ.line i) := fun i => ⟨rfl, fun c hc => by rw [hp i] at hc; cases hc⟩
  have hE1 : ∀ i, i < N → (64 * i + 64 ≤ a + 64 ∨ a + 64 + (recsB B xs).length ≤ 64 * i) → Every (acts (recsF B (a + 64) xs) σ) i (· = σ.line i) := fun i hi ho => acts_every _ σ g0 (evf_recs hi (by omega) xs (a + 64) (by omega) (by omega)) hσ hN (by omega) (hE0 i)
  have hE2 : ∀ i, i < N → (64 * i + 64 ≤ a + 64 ∨ a + 64 + (recsB B xs).length ≤ 64 * i) → Every (acts (rngF (a + 64) (recsB B xs).length) (acts (recsF B (a + 64) xs) σ)) i (· = σ.line i) := fun i hi ho => acts_every _ _ g1 (evf_rng _ _) R.like.ok (hrn.trans hN) (by omega) (hE1 i hi ho)
  unfold wrF at hr
  rcases RunD.split g0 hσ hN (by omega) hr with h | h
  · exact .inl fun i hi ho => run_every (P := fun c => c = σ.line i) g0 (evf_recs hi (by omega) xs (a + 64) (by omega) (by omega)) hσ hN (by omega) hi (hE0 i) h
  · rcases RunD.split g1 R.like.ok (hrn.trans hN) (by omega) h with h | h
    · exact .inl fun i hi ho => run_every (P := fun c => c = σ.line i) g1 (evf_rng _ _) R.like.ok (hrn.trans hN) (by omega) hi (hE1 i hi (by omega)) h
    · have hall : ∀ i, i < N → Every (acts (rngF (a + 64) (recsB B xs).length) (acts (recsF B (a + 64) xs) σ)) i (· = (acts (rngF (a + 64) (recsB B xs).length) (acts (recsF B (a + 64) xs) σ)).line i) := fun i hi => by
        by_cases ho : 64 * i + 64 ≤ a + 64 ∨ a + 64 + (recsB B xs).length ≤ 64 * i
        · have h2 := hE2 i hi ho
          refine ⟨rfl, fun c hc => ?_⟩
          rw [h2.2 c hc]
          exact h2.1.symm
        · refine ⟨rfl, fun c hc => ?_⟩
          have hm : i ∈ linesOf (a + 64) (recsB B xs).length := by
            have := mem_linesOf (at_ := a + 64) (n := (recsB B xs).length) (i := 64 * i - (a + 64)) (by omega) (by omega)
            rwa [show (a + 64 + (64 * i - (a + 64))) / 64 = i by omega] at this
          rw [rng_one R.like.ok (hrn.trans hN) (by omega) hm] at hc
          cases hc
      rcases pub_lost l1.ok (n1.trans (hrn.trans hN)) hall ha6 (by omega) (by omega) h with e | e
      · left
        intro i hi ho
        have h3 : s.line i = (acts (rngF (a + 64) (recsB B xs).length) (acts (recsF B (a + 64) xs) σ)).line i := by unfold St.line; rw [e]
        rw [h3]
        exact (hE2 i hi (by omega)).1
      · right
        rw [e, b1, R.bytes]
end Go.Proofs.Ytgfgihpkbbjkfaa
