/- What the statements' own ApartTexts answers of two rows of their own. -/
import Derived.Test.YtegplcomhahpfaaLSplitO
import Derived.Test.YtegplcomhahpfaaLMark
import Derived.Deep.DeepCutAuto
import Derived.Maps.AppendAt
namespace Go.Proofs.Ytegplcomhahpfaa
open Go.RowKit Go.Shelf
set_option linter.unusedVariables false

/-- A row whose first m texts are marks. -/
def MR (W : World) (g n j m : Nat) : Prop := ∃ cur : Array Value, W.heap[g]? = some (.cells cur 9 (0, 0)) ∧ n ≤ cur.size ∧ ∀ k, k < m → cur[k]? = some (.string (tmk j k))
theorem MR.below {W W' : World} {g n j m b : Nat} (h : MR W g n j m) (hb : Below b W W') (hg : g < b) : MR W' g n j m := by
  obtain ⟨cur, h1, h2⟩ := h
  exact ⟨cur, (hb.block g hg).trans h1, h2⟩
theorem MR.lt {W : World} {g n j m : Nat} (h : MR W g n j m) : g < W.heap.size := by
  obtain ⟨cur, h1, _⟩ := h
  exact (Array.getElem?_eq_some_iff.1 h1).1
theorem MR.cell {W : World} {g n j m : Nat} (h : MR W g n j m) {k : Nat} (hk : k < m) : W.cell? ⟨g, k, none⟩ = some (.string (tmk j k)) := by
  obtain ⟨cur, h1, h2, h3⟩ := h
  simp only [World.cell?, h1]
  exact h3 k hk
theorem MR.any {W : World} {g n j m : Nat} (h : MR W g n j m) {k : Nat} (hk : k < n) : ∃ v, W.cell? ⟨g, k, none⟩ = some v ∧ W.frozen? ⟨g, k, none⟩ = false := by
  obtain ⟨cur, h1, h2, h3⟩ := h
  refine ⟨cur[k], ?_, frzOf h1 k⟩
  simp only [World.cell?, h1]
  exact Array.getElem?_eq_getElem (by omega)
theorem MR.step {W : World} {g n j k : Nat} (h : MR W g n j k) (hk : k < n) : MR (W.setCell ⟨g, k, none⟩ (.string (tmk j k))) g n j (k + 1) := by
  obtain ⟨cur, h1, h2, h3⟩ := h
  refine ⟨_, heap_setCell_same W g k _ _ _ h1, by simpa using h2, fun i hi => ?_⟩
  by_cases e : i = k
  · subst e
    simp [show i < cur.size by omega]
  · rw [Array.getElem?_setIfInBounds_ne (fun h => e h.symm)]
    exact h3 i (by omega)
theorem MR.other {W : World} {g g' n j m o : Nat} (h : MR W g n j m) (hne : g ≠ g') (v : Value) : MR (W.setCell ⟨g', o, none⟩ v) g n j m := by
  obtain ⟨cur, h1, h2⟩ := h
  exact ⟨cur, (Below.heap_setCell W ⟨g', o, none⟩ v g hne).trans h1, h2⟩
/-- The outer row. -/
def Out2 (W : World) (g0 n : Nat) (G : Nat → Nat) : Prop := W.heap[g0]? = some (.cells #[.slice (some ⟨G 0, 0, none⟩) n n, .slice (some ⟨G 1, 0, none⟩) n n] 34 (0, 0))
theorem Out2.cell {W : World} {g0 n : Nat} {G : Nat → Nat} (h : Out2 W g0 n G) {i : Nat} (hi : i < 2) : W.cell? ⟨g0, i, none⟩ = some (.slice (some ⟨G i, 0, none⟩) n n) := by
  rcases (by omega : i = 0 ∨ i = 1) with rfl | rfl
  · exact celOf h 0 _ rfl
  · exact celOf h 1 _ rfl
theorem Out2.below {W W' : World} {g0 n b : Nat} {G : Nat → Nat} (h : Out2 W g0 n G) (hb : Below b W W') (hg : g0 < b) : Out2 W' g0 n G := (hb.block g0 hg).trans h
theorem Out2.lt {W : World} {g0 n : Nat} {G : Nat → Nat} (h : Out2 W g0 n G) : g0 < W.heap.size := (Array.getElem?_eq_some_iff.1 (show W.heap[g0]? = _ from h)).1
theorem Out2.ne {W : World} {g0 n g m j k : Nat} {G : Nat → Nat} (h : Out2 W g0 n G) (hm : MR W g m j k) : g0 ≠ g := fun e => by
  obtain ⟨cur, h1, _⟩ := hm
  unfold Out2 at h
  rw [e, h1] at h
  cases h
theorem Out2.other {W : World} {g0 g' n o : Nat} {G : Nat → Nat} (h : Out2 W g0 n G) (hne : g0 ≠ g') (v : Value) : Out2 (W.setCell ⟨g', o, none⟩ v) g0 n G := (Below.heap_setCell W ⟨g', o, none⟩ v g0 hne).trans h

/-- A cell put behind a row that is full: the row moves, and what lay there stays. -/
theorem wpList_append_fullC {P : Program} (w : World) {ops : Array Oper} {rest : List Oper} {o : Oper} {a : Act} {Q : Exit → Act → World → Prop}
    (hg : o.guard = none) (s x : Operand) (t : TypeId) (hop : o.op = Op.call { callee := Callee.builtin Builtin.append, args := #[s, x], argTypes := #[t, t] })
    (e : TypeId) (i : TypeInfo) (z : Value) (bytes : Nat) (ht : P.underlying t = some (.slice e)) (hi : P.info? e = some i) (hz : i.zero = some z) (hs1 : i.size = 1) (hby : i.bytes = bytes) (hzs : z.cells.size = 1)
    (g n : Nat) (xs : List Value) (hs : a.eval s = .slice (some ⟨g, 0, none⟩) n n) (hxl : xs.length = n) (holds : ∀ j v, xs[j]? = some v → w.cell? ((⟨g, 0, none⟩ : Addr).add j) = some v) (ad : Addr) (u : Value) (hx : a.eval x = .slice (some ad) 1 1)
    (hu : ∀ j v, [u][j]? = some v → w.cell? (ad.add j) = some v) (h63 : n + 1 ≤ maxLen) (hbytes : (n + 1) * bytes ≤ 140737488355328)
    (hK : ∀ v' w', w'.ownsRow w.heap.size e 1 v' (n + 1) (xs ++ [u]) → w.grownBy w' none → wpList P ops Q rest (a.put o.dst v') w') :
    wpList P ops Q (o :: rest) a w := by
  refine wpList_plain hg fun K hK' => ?_
  have hr := run_append_grow (P := P) w t o.type e i z ht hi hz ⟨g, 0, none⟩ n n xs (by rw [hs1]; omega) holds ad 1 1 [u] (by rw [hs1]; rfl) hu (by omega) (by unfold maxLen at h63; omega) (growslice_fits (by omega) (by rw [hby]; exact hbytes))
  have hge := grownCap_ge w (n + 1) n e
  have hcm : grownCap w (n + 1) n e ≤ maxLen := grownCap_le_maxLen w (n + 1) n e h63
  have h1 : (w.drew.alloc (.cells (xs.toArray ++ [u].toArray ++ Builtin.zeroCells z.cells (grownCap w (n + 1) n e - (n + 1))) e)).ownsRow w.heap.size e 1 (.slice (some ⟨w.heap.size, 0, none⟩) (n + 1) (grownCap w (n + 1) n e)) (n + 1) (xs ++ [u]) := by
    refine ⟨by simp [hxl], .inr ⟨w.heap.size, _, _, rfl, Nat.le_refl _, heap_alloc_new w.drew _, hge, hcm, ?_, ?_⟩⟩
    · simp only [Array.size_append, List.size_toArray, size_zeroCells, hzs, hxl, List.length_cons, List.length_nil]
      omega
    · have hl : (n + 1) * 1 = (xs ++ [u]).length := by simp [hxl]
      simp only [Array.toList_append, List.append_assoc]
      rw [← List.append_assoc, hl]
      exact List.take_left
  have h2 : w.grownBy (w.drew.alloc (.cells (xs.toArray ++ [u].toArray ++ Builtin.zeroCells z.cells (grownCap w (n + 1) n e - (n + 1))) e)) none := ⟨rfl, rfl, rfl, by simp, fun k hk _ => Below.heap_alloc w.drew _ k hk⟩
  unfold Oper.wp
  simp only [execOp, hop, resolve, invoke, builtin, Sem.run_bind, Sem.run_pure, Result.andThen_ok, List.map_toArray, List.map_cons, List.map_nil, hs, hx, hr]
  exact hK' _ _ (hK _ _ h1 h2)
/-- The marks of a row. -/
def mks (j m : Nat) : List Value := (List.range m).map (fun k => .string (tmk j k))
theorem mks_len (j m : Nat) : (mks j m).length = m := by unfold mks; simp
theorem mks_succ (j m : Nat) : mks j (m + 1) = mks j m ++ [.string (tmk j m)] := by unfold mks; rw [List.range_succ, List.map_append]; rfl
theorem mks_get {j m k : Nat} (h : k < m) : (mks j m)[k]? = some (.string (tmk j k)) := by
  unfold mks
  rw [List.getElem?_map, List.getElem?_range h]; rfl
theorem MR.of_row {W : World} {base h c j m : Nat} (hr : W.ownsRow base 9 1 (.slice (some ⟨h, 0, none⟩) m c) m (mks j m)) : MR W h 0 j m := by
  rcases hr.2 with ⟨h1, _⟩ | ⟨g', cap', cur, h1, h2, h3, h4, _, h5, h6⟩
  · cases h1
  · cases h1
    refine ⟨cur, h3, by omega, fun k hk => ?_⟩
    have h7 := mks_get (j := j) hk
    rw [← h6, List.getElem?_take, if_pos (by omega)] at h7
    simpa using h7
theorem ownsRow_belowX {W W' : World} {base : Nat} {e : TypeId} {size : Nat} {v : Value} {k : Nat} {xs : List Value} (h : W.ownsRow base e size v k xs) (hb : Below W.heap.size W W') : W'.ownsRow base e size v k xs := ownsRow_belowS h hb
theorem Try.infoSl : (Try.prog.info? 34).map (fun i => (i.zero, i.size, i.bytes)) = some (some (.slice none 0 0), 1, 24) := by kernel_rfl
/-- The slices that were grown. -/
def gsl (h c : Nat → Nat) (m i : Nat) : List Value := (List.range i).map (fun j => .slice (some ⟨h j, 0, none⟩) m (c j))
theorem gsl_succ (h c : Nat → Nat) (m i g' c' : Nat) : gsl (fun j => if j = i then g' else h j) (fun j => if j = i then c' else c j) m (i + 1) = gsl h c m i ++ [.slice (some ⟨g', 0, none⟩) m c'] := by
  unfold gsl
  rw [List.range_succ, List.map_append]
  congr 1
  · apply List.map_congr_left
    intro j hj
    have := List.mem_range.1 hj
    simp only
    rw [if_neg (by omega), if_neg (by omega)]
  · simp

set_option maxRecDepth 100000 in
set_option maxHeartbeats 4000000 in
theorem apart_any (g0 n b : Nat) (G : Nat → Nat) (w : World) (h0 : Out2 w g0 n G) (ha : ∀ j, j < 2 → MR w (G j) n j 0 ∧ b ≤ G j) (hG : G 0 ≠ G 1) (hb : b ≤ w.heap.size) (hn : n ≤ 1048578) :
    Calls Try.prog 15 #[.slice (some ⟨g0, 0, none⟩) 2 2] w fun e w' => e = .returned (.bool true) ∧ Below b w w' := by
  have km := fun (i k : Nat) w' (hi : i ≤ 100) (hk : k ≤ 2199023255652) => textMark_any i k w' hi hk
  have KM := hide km
  have hnI : (n : Int) ≤ 1048578 := by omega
  have HN := hide hn
  have H0 := hide h0
  have HA := hide ha
  have HG := hide hG
  have HBB := hide hb
  have hne : ∀ j j', j < 2 → j' < 2 → j ≠ j' → G j ≠ G j' := fun j j' h h' e => by
    rcases (by omega : (j = 0 ∧ j' = 1) ∨ (j = 1 ∧ j' = 0)) with ⟨rfl, rfl⟩ | ⟨rfl, rfl⟩
    · exact hG
    · exact hG.symm
  have HNE := hide hne
  clear km hn h0 ha hG hb hne
  go_enter Try.func15, Try.ntmps15
  go_wp2
  go_loopw [3] (fun q w' => ∃ i : Nat, q = .int .i64 (i : Int) ∧ i ≤ 2 ∧ Out2 w' g0 n G ∧ (∀ j, j < 2 → MR w' (G j) n j (if j < i then n else 0)) ∧ Below b w w') (fun q _ => (2 - intOf q).toNat)
  case atStart => exact ⟨0, rfl, by omega, H0.out, fun j hj => by rw [if_neg (by omega)]; exact (HA.out j hj).1, Below.refl _ _⟩
  case round =>
    obtain ⟨i, rfl, hi2, ho, hm, hB⟩ := hrel
    by_cases hlt : i < 2
    · have hltI : (i : Int) < 2 := by omega
      have hm0 : MR wr (G i) n i 0 := by have := hm i hlt; rw [if_neg (by omega)] at this; exact this
      have HO := hide ho
      have HM := hide hm
      have HM0 := hide hm0
      have HB := hide hB
      have hbg := (HA.out i hlt).2
      have HBG := hide hbg
      have X0 := hide (Below.refl b w)
      clear ho hm hm0 hB hbg
      go_wp2
      generalize hX : wr = X at *
      clear hX
      go_loopw [4] (fun q w' => ∃ k : Nat, q = .int .i64 (k : Int) ∧ k ≤ n ∧ Out2 w' g0 n G ∧ MR w' (G i) n i k ∧ (∀ j, j < 2 → j ≠ i → MR w' (G j) n j (if j < i then n else 0)) ∧ Below b w w') (fun q _ => (n - intOf q).toNat)
      case atStart => exact ⟨0, rfl, by omega, HO.out, HM0.out, fun j hj _ => HM.out j hj, HB.out⟩
      case round =>
        clear HO HM HM0 HB
        obtain ⟨k, rfl, hkn, ho, hmi, hmj, hB⟩ := hrel
        have z0 := ho.cell hlt
        by_cases hk : k < n
        · have hkI : (k : Int) < (n : Int) := by omega
          have mk : ∀ W, Below wr.heap.size wr W → W.cell? ⟨g0, i, none⟩ = some (.slice (some ⟨G i, 0, none⟩) n n) := fun W h => (ho.below h ho.lt).cell hlt
          have fs : ∀ W, Below wr.heap.size wr W → ∃ old, W.cell? ⟨G i, k, none⟩ = some old ∧ W.frozen? ⟨G i, k, none⟩ = false ∧ (W.setCell ⟨G i, k, none⟩ (.string (tmk i k))).cell? ⟨g0, i, none⟩ = some (.slice (some ⟨G i, 0, none⟩) n n) ∧
              (Out2 (W.setCell ⟨G i, k, none⟩ (.string (tmk i k))) g0 n G ∧ MR (W.setCell ⟨G i, k, none⟩ (.string (tmk i k))) (G i) n i (k + 1) ∧ (∀ j, j < 2 → j ≠ i → MR (W.setCell ⟨G i, k, none⟩ (.string (tmk i k))) (G j) n j (if j < i then n else 0)) ∧ Below b w (W.setCell ⟨G i, k, none⟩ (.string (tmk i k)))) := fun W h => by
            have ho' := ho.below h ho.lt
            have hmi' := hmi.below h hmi.lt
            obtain ⟨old, h1, h2⟩ := hmi'.any hk
            have hgo := ho'.ne hmi'
            have ho2 := ho'.other (o := k) hgo (.string (tmk i k))
            refine ⟨old, h1, h2, ho2.cell hlt, ho2, hmi'.step hk, fun j hj hji => ?_, ?_⟩
            · have hmj' := (hmj j hj hji).below h (hmj j hj hji).lt
              exact hmj'.other (HNE.out j i hj hlt hji) _
            · exact (hB.trans (h.mono (by have := hB.size; have := HBB.out; omega))).setCell (p := ⟨G i, k, none⟩) HBG.out _
          have MK := hide mk
          have FS := hide fs
          have kc := fun w' => KM.out i k w' (by omega) (by have := HN.out; omega)
          have KC := hide kc
          generalize tmk i k = t at *
          clear mk fs kc ho hmi hmj hB
          go_upto_region 7 with (fail)
          go_region_held3 (fun W => W.cell? ⟨g0, i, none⟩ = some (.slice (some ⟨G i, 0, none⟩) n n)) (first | exact MK.out _ (Below.refl _ _).drew | exact MK.out _ hX3 | exact hS5) (first | (go_at_call 25; refine (KC.out _).mono ?_; rintro e3 w3 ⟨rfl, hB3⟩; have hX3 : Below wr.heap.size wr w3 := bseq (Below.refl _ _).drew hB3; obtain ⟨old, d0, df0, hS5, hfin⟩ := FS.out _ hX3; replace hfin := hide hfin))
          go_wp2
          go_roundw
          case rel => exact ⟨k + 1, by go_num, by omega, hfin.out⟩
          case measure => simp [intOf]; omega
        · have hkI : (n : Int) ≤ (k : Int) := by omega
          have ekn : k = n := by omega
          rw [ekn] at hmi
          have HMI := hide hmi
          have HMJ := hide hmj
          have HO := hide ho
          have HB := hide hB
          clear hmi hmj ho hB ekn
          go_wp2
          go_roundw
          case rel =>
            refine ⟨i + 1, by go_num, by omega, HO.out, fun j hj => ?_, HB.out⟩
            by_cases e : j = i
            · rw [e, if_pos (by omega)]; exact HMI.out
            · have h1 := HMJ.out j hj e
              by_cases e2 : j < i
              · rw [if_pos e2] at h1; rw [if_pos (by omega)]; exact h1
              · rw [if_neg e2] at h1; rw [if_neg (by omega)]; exact h1
          case measure => simp [intOf]; omega
    · have hltI : (2 : Int) ≤ (i : Int) := by omega
      have e2 : i = 2 := by omega
      have hall : ∀ j, j < 2 → MR wr (G j) n j n := fun j hj => by have := hm j hj; rw [if_pos (by omega)] at this; exact this
      have HO := hide ho
      have HALL := hide hall
      have HBX := hide hB
      clear ho hall hm hB e2 hlt HA H0
      obtain ⟨i0, hi, hz0, hz1, hz2⟩ := info_parts Try.infoS
      obtain ⟨i1, hj, hy0, hy1, hy2⟩ := info_parts Try.infoSl
      go_wp2
      generalize hX : wr = X at *
      clear hX
      go_loopw [5, 6] (fun v q w' => ∃ (i : Nat) (h c : Nat → Nat), q = .int .i64 (i : Int) ∧ i ≤ 2 ∧ World.ownsRow w' X.heap.size 34 1 v i (gsl h c (n + 70) i) ∧ (∀ j, j < i → MR w' (h j) 0 j (n + 70)) ∧ Below X.heap.size X w') (fun _ q _ => (2 - intOf q).toNat)
      case atStart => exact ⟨0, fun _ => 0, fun _ => 0, rfl, by omega, World.ownsRow_nil _ _ _ _, fun j hj => by omega, Below.refl _ _⟩
      case round =>
        obtain ⟨i, h, c, rfl, hi2, hgr, hmr, hB⟩ := hrel
        by_cases hlt : i < 2
        · have hltI : (i : Int) < 2 := by omega
          have z0 := (HO.out.below hB HO.out.lt).cell hlt
          have hcg : ∀ W, Below wr.heap.size wr W → W.cell? ⟨g0, i, none⟩ = some (.slice (some ⟨G i, 0, none⟩) n n) := fun W h => (HO.out.below (hB.trans (h.mono hB.size)) HO.out.lt).cell hlt
          have hmg : ∀ W, Below wr.heap.size wr W → MR W (G i) n i n := fun W h => (HALL.out i hlt).below (hB.trans (h.mono hB.size)) (HALL.out i hlt).lt
          have HCG := hide hcg
          have HMG := hide hmg
          have HGR := hide hgr
          have HMR := hide hmr
          have HB := hide hB
          clear hcg hmg hgr hmr hB
          go_wp2
          clear z0
          generalize hXi : wr = Xi at *
          clear hXi
          go_loopw [7, 8] (fun v q w' => ∃ k : Nat, q = .int .i64 (k : Int) ∧ k ≤ 70 ∧ ((k = 0 ∧ v = .slice (some ⟨G i, 0, none⟩) n n) ∨ (1 ≤ k ∧ World.ownsRow w' Xi.heap.size 9 1 v (n + k) (mks i (n + k)))) ∧ Below Xi.heap.size Xi w') (fun _ q _ => (70 - intOf q).toNat)
          case atStart => exact ⟨0, rfl, by omega, .inl ⟨rfl, rfl⟩, Below.refl _ _⟩
          case round =>
            obtain ⟨k, rfl, hk70, hrow, hB⟩ := hrel
            have z0 := HCG.out _ hB
            have HBk := hide hB
            clear hB
            by_cases hk : k < 70
            · have hkI : (k : Int) < 70 := by omega
              have hadd : (n : Int) + (k : Int) = ((n + k : Nat) : Int) := by omega
              obtain ⟨m, hm⟩ : ∃ m, n + k = m := ⟨_, rfl⟩
              rw [hm] at hadd hrow
              have hmI : (m : Int) ≤ 1048648 := by omega
              have hmb : m ≤ 1048648 := by have := HN.out; omega
              have kc := fun w' => KM.out i m w' (by omega) (by omega)
              have KC := hide kc
              have HMS := hide (mks_succ i m)
              have HM := hide hm
              have HMB := hide hmb
              generalize tmk i m = t at *
              clear kc hm hmb hk hk70
              rcases hrow with ⟨hk0, rfl⟩ | ⟨hk1, hrow⟩
              · have hmn : m = n := by have := HM.out; omega
                subst hmn
                have holds : ∀ W, Below wr.heap.size wr W → ∀ j v, (mks i m)[j]? = some v → W.cell? ((⟨G i, 0, none⟩ : Addr).add j) = some v := fun W hW j v hv => by
                  have hjm : j < m := by have := (List.getElem?_eq_some_iff.1 hv).1; rw [mks_len] at this; exact this
                  have hc := (HMG.out _ (HBk.out.trans (hW.mono HBk.out.size))).cell hjm
                  rw [mks_get hjm] at hv
                  cases hv
                  cases j with
                  | zero => simpa [Addr.add] using hc
                  | succ j => simpa [Addr.add] using hc
                have HLD := hide holds
                clear holds
                go_wp2_with (first | (go_at_call 25; refine (KC.out _).mono ?_; rintro e3 w3 ⟨rfl, hB3⟩) | (at_builtin; refine wpList_append_fullC _ rfl _ _ 34 rfl 9 i0 (.string ⟨#[]⟩) 16 Try.underlying34 hi hz0 hz1 hz2 rfl (G i) m (mks i m) rfl (mks_len _ _) (HLD.out _ (bseq hB3 ((Below.refl _ _).alloc (Nat.le_refl _) _))) ⟨w3.heap.size, 0, none⟩ (.string t) rfl (cell_one_new _ _ _) (by simp only [maxLen]; have := HMB.out; omega) (by have := HMB.out; omega) ?_; intro v' w4 hown' hgrow'))
                go_roundw
                case rel =>
                  have hBA : Below Xi.heap.size Xi (w3.alloc (.cells #[.string t] 9)) := (HBk.out.trans (hB3.mono HBk.out.size)).alloc (by have := HBk.out.size; have := hB3.size; omega) _
                  refine ⟨k + 1, by go_num, by omega, .inr ⟨by omega, ?_⟩, hBA.grown hgrow' hBA.size (fun k e => by cases e)⟩
                  rw [← HMS.out] at hown'
                  have e1 : m + (k + 1) = m + 1 := by omega
                  rw [e1]
                  refine ⟨hown'.1, ?_⟩
                  rcases hown'.2 with h1 | ⟨g, cap, cur, h1, h2, h3⟩
                  · exact .inl h1
                  · exact .inr ⟨g, cap, cur, h1, by have := hBA.size; omega, h3⟩
                case measure => simp [intOf]; omega
              · have HROW := hide hrow
                clear hrow
                go_wp2_with (first | (go_at_call 25; refine (KC.out _).mono ?_; rintro e3 w3 ⟨rfl, hB3⟩) | (at_builtin; refine wpList_append_own_at _ rfl _ _ 34 rfl Xi.heap.size 9 i0 (.string ⟨#[]⟩) 1 16 Try.underlying34 hi hz0 hz1 hz2 rfl (by decide) _ m (mks i m) rfl (ownsRow_belowS HROW.out (bseq hB3 ((Below.refl _ _).alloc (Nat.le_refl _) _))) ⟨w3.heap.size, 0, none⟩ 1 1 [.string t] rfl rfl (cell_one_new _ _ _) (by simp [Value.oneCell']) (by simp only [maxLen]; have := HMB.out; omega) (by have := HMB.out; omega) (by have := HBk.out.size; have := hB3.size; simp; omega) ?_; intro v' w4 hown' hgrow' _ _))
                go_roundw
                case rel =>
                  have hBA : Below Xi.heap.size Xi (w3.alloc (.cells #[.string t] 9)) := (HBk.out.trans (hB3.mono HBk.out.size)).alloc (by have := HBk.out.size; have := hB3.size; omega) _
                  refine ⟨k + 1, by go_num, by omega, .inr ⟨by omega, ?_⟩, hBA.grown hgrow' hBA.size (fun k e => (HROW.out.lt k e).1)⟩
                  rw [← HMS.out] at hown'
                  have e1 : n + (k + 1) = m + 1 := by have := HM.out; omega
                  rw [e1]
                  exact hown'
                case measure => simp [intOf]; omega
            · have hkI : (70 : Int) ≤ (k : Int) := by omega
              have ek : k = 70 := by omega
              have hrow2 : World.ownsRow wr Xi.heap.size 9 1 u7 (n + 70) (mks i (n + 70)) := by
                rcases hrow with ⟨h0, _⟩ | ⟨_, h1⟩
                · omega
                · rw [ek] at h1; exact h1
              obtain ⟨gN, cN, hu7⟩ : ∃ gN cN, u7 = .slice (some ⟨gN, 0, none⟩) (n + 70) cN := by
                rcases hrow2.2 with ⟨_, h0⟩ | ⟨g, cap, cur, h1, _⟩
                · omega
                · exact ⟨g, cap, h1⟩
              subst hu7
              have hmN := MR.of_row hrow2
              have HMN := hide hmN
              have HI2 := hide hi2
              have hgr2 := ownsRow_belowS (ownsRow_belowX HGR.out HBk.out) (Below.refl _ _)
              have HGR2 := hide hgr2
              clear hrow hrow2 hmN ek hgr2 hk hk70
              go_wp2_with (at_builtin; refine wpList_append_own_at _ rfl _ _ 38 rfl X.heap.size 34 i1 (.slice none 0 0) 1 24 Try.underlying38 hj hy0 hy1 hy2 rfl (by decide) _ i (gsl h c (n + 70) i) rfl (HGR2.out.alloc _) ⟨wr.heap.size, 0, none⟩ 1 1 [.slice (some ⟨gN, 0, none⟩) (n + 70) cN] rfl rfl (cell_one_new _ _ _) (by simp [Value.oneCell']) (by simp only [maxLen]; omega) (by omega) (by have := HB.out.size; have := HBk.out.size; simp; omega) ?_; intro v' w4 hown' hgrow' _ _)
              go_roundw
              case rel =>
                have hBA : Below X.heap.size X (wr.alloc (.cells #[.slice (some ⟨gN, 0, none⟩) (n + 70) cN] 34)) := (HB.out.trans (HBk.out.mono HB.out.size)).alloc (by have := HB.out.size; have := HBk.out.size; omega) _
                have hkeep : ∀ g' j, MR wr g' 0 j (n + 70) → MR w4 g' 0 j (n + 70) := fun g' j hm' => by
                  have hm2 : MR (wr.alloc (.cells #[.slice (some ⟨gN, 0, none⟩) (n + 70) cN] 34)) g' 0 j (n + 70) := hm'.below ((Below.refl wr.heap.size wr).alloc (Nat.le_refl _) _) hm'.lt
                  obtain ⟨cur, h1, h2⟩ := hm2
                  refine ⟨cur, (hgrow'.block g' (Array.getElem?_eq_some_iff.1 h1).1 (fun e => ?_)).trans h1, h2⟩
                  rcases (HGR2.out.alloc (.cells #[.slice (some ⟨gN, 0, none⟩) (n + 70) cN] 34)).2 with ⟨hv, _⟩ | ⟨gg, cap, cu, hv, _, hh, _⟩
                  · rw [hv] at e; cases e
                  · rw [hv] at e
                    cases e
                    rw [h1] at hh
                    cases hh
                refine ⟨i + 1, fun j => if j = i then gN else h j, fun j => if j = i then cN else c j, by go_num, by have := HI2.out; omega, ?_, fun j hj => ?_, hBA.grown hgrow' hBA.size (fun k e => (HGR2.out.lt k e).1)⟩
                · rw [gsl_succ]; exact hown'
                · simp only
                  by_cases e : j = i
                  · rw [if_pos e, e]; exact hkeep _ _ HMN.out
                  · rw [if_neg e]
                    have h1 := HMR.out j (by omega)
                    exact hkeep _ _ (h1.below HBk.out h1.lt)
              case measure => simp [intOf]; omega
        · have hltI : (2 : Int) ≤ (i : Int) := by omega
          have e2 : i = 2 := by omega
          rw [e2] at hgr hmr
          clear e2
          have hv5 : ∃ gg cg, u5 = .slice (some ⟨gg, 0, none⟩) 2 cg := by
            rcases hgr.2 with ⟨_, h0⟩ | ⟨g, cap, cur, h1, _⟩
            · omega
            · exact ⟨g, cap, h1⟩
          obtain ⟨gg, cg, rfl⟩ := hv5
          have hgc : ∀ W, Below wr.heap.size wr W → ∀ j, j < 2 → W.cell? ⟨gg, j, none⟩ = some (.slice (some ⟨h j, 0, none⟩) (n + 70) (c j)) := fun W hW j hj => by
            have h1 := (ownsRow_belowS hgr hW).cells (g := gg) rfl j (.slice (some ⟨h j, 0, none⟩) (n + 70) (c j)) (by unfold gsl; rw [List.getElem?_map, List.getElem?_range hj]; rfl)
            cases j with
            | zero => simpa [Addr.add] using h1
            | succ j => simpa [Addr.add] using h1
          have hg0 : ∀ W, Below wr.heap.size wr W → ∀ j, j < 2 → W.cell? ⟨g0, j, none⟩ = some (.slice (some ⟨G j, 0, none⟩) n n) := fun W hW j hj => (HO.out.below (hB.trans (hW.mono hB.size)) HO.out.lt).cell hj
          have hhm : ∀ W, Below wr.heap.size wr W → ∀ j k, j < 2 → k < n + 70 → W.cell? ⟨h j, k, none⟩ = some (.string (tmk j k)) := fun W hW j k hj hk => ((hmr j hj).below hW (hmr j hj).lt).cell hk
          have hGm : ∀ W, Below wr.heap.size wr W → ∀ j k, j < 2 → k < n → W.cell? ⟨G j, k, none⟩ = some (.string (tmk j k)) := fun W hW j k hj hk => ((HALL.out j hj).below (hB.trans (hW.mono hB.size)) (HALL.out j hj).lt).cell hk
          have HGC := hide hgc
          have HG0 := hide hg0
          have HHM := hide hhm
          have HGM := hide hGm
          have HB := hide hB
          clear hgc hg0 hhm hGm hgr hmr hB HO HALL hlt hi2
          go_wp2
          generalize hY : wr = Y at *
          clear hY
          go_loopw [9] (fun q w' => ∃ i : Nat, q = .int .i64 (i : Int) ∧ i ≤ 2 ∧ Below Y.heap.size Y w') (fun q _ => (2 - intOf q).toNat)
          case atStart => exact ⟨0, rfl, by omega, Below.refl _ _⟩
          case round =>
            obtain ⟨i, rfl, hi2, hBY⟩ := hrel
            by_cases hlt : i < 2
            · have hltI : (i : Int) < 2 := by omega
              have HBY := hide hBY
              clear hBY
              go_wp2
              go_loopw [10] (fun q w' => ∃ k : Nat, q = .int .i64 (k : Int) ∧ k ≤ n + 70 ∧ Below Y.heap.size Y w') (fun q _ => (n + 70 - intOf q).toNat)
              case atStart => exact ⟨0, rfl, by omega, HBY.out⟩
              case round =>
                clear HBY
                obtain ⟨k, rfl, hk70, hBY⟩ := hrel
                have y0 := HGC.out _ hBY i hlt
                have HBY := hide hBY
                clear hBY
                by_cases hk : k < n + 70
                · have hkI : (k : Int) < (n : Int) + 70 := by omega
                  have kc := fun w' => KM.out i k w' (by omega) (by have := HN.out; omega)
                  have KC := hide kc
                  have hhk : ∀ W, Below wr.heap.size wr W → W.cell? ⟨h i, k, none⟩ = some (.string (tmk i k)) := fun W hW => HHM.out _ (HBY.out.trans (hW.mono HBY.out.size)) i k hlt hk
                  have hgk : ∀ W, Below wr.heap.size wr W → k < n → W.cell? ⟨G i, k, none⟩ = some (.string (tmk i k)) := fun W hW hkn => HGM.out _ (HBY.out.trans (hW.mono HBY.out.size)) i k hlt hkn
                  have hc0 : ∀ W, Below wr.heap.size wr W → W.cell? ⟨g0, i, none⟩ = some (.slice (some ⟨G i, 0, none⟩) n n) := fun W hW => HG0.out _ (HBY.out.trans (hW.mono HBY.out.size)) i hlt
                  have hcg : ∀ W, Below wr.heap.size wr W → W.cell? ⟨gg, i, none⟩ = some (.slice (some ⟨h i, 0, none⟩) (n + 70) (c i)) := fun W hW => HGC.out _ (HBY.out.trans (hW.mono HBY.out.size)) i hlt
                  generalize tmk i k = t at *
                  have hkI2 : (k : Int) < ((n + 70 : Nat) : Int) := by omega
                  clear kc
                  by_cases hkn : k < n
                  · have mk : ∀ W, Below wr.heap.size wr W → (Below wr.heap.size wr W ∧ W.cell? ⟨gg, i, none⟩ = some (.slice (some ⟨h i, 0, none⟩) (n + 70) (c i)) ∧ W.cell? ⟨h i, k, none⟩ = some (.string t) ∧ W.cell? ⟨g0, i, none⟩ = some (.slice (some ⟨G i, 0, none⟩) n n) ∧ W.cell? ⟨G i, k, none⟩ = some (.string t)) := fun W hW => ⟨hW, hcg W hW, hhk W hW, hc0 W hW, hgk W hW hkn⟩
                    have MK := hide mk
                    have hd1 : decide ((k : Int) < (n : Int)) = true := by simp; omega
                    have hd2 : decide (k < n) = true := by simp; omega
                    have hkn' : (k : Int) < (n : Int) := by omega
                    clear mk hhk hgk hc0 hcg
                    go_upto_region 24 with (fail)
                    go_region_held3 (fun W => Below wr.heap.size wr W ∧ W.cell? ⟨gg, i, none⟩ = some (.slice (some ⟨h i, 0, none⟩) (n + 70) (c i)) ∧ W.cell? ⟨h i, k, none⟩ = some (.string t) ∧ W.cell? ⟨g0, i, none⟩ = some (.slice (some ⟨G i, 0, none⟩) n n) ∧ W.cell? ⟨G i, k, none⟩ = some (.string t)) (first | exact MK.out _ (Below.refl _ _).drew | exact MK.out _ hX4 | exact MK.out _ hX3) (first | (go_at_call 25; refine (KC.out _).mono ?_; rintro e4 w4 ⟨rfl, hB4⟩; have hX4 : Below wr.heap.size wr w4 := bseq hX3 hB4) | (go_at_call 25; refine (KC.out _).mono ?_; rintro e3 w3 ⟨rfl, hB3⟩; have hX3 : Below wr.heap.size wr w3 := bseq (Below.refl _ _).drew hB3))
                    go_wp2
                    go_roundw
                    case rel => exact ⟨k + 1, by go_num, by omega, HBY.out.trans (hX4.mono HBY.out.size)⟩
                    case measure => simp [intOf]; omega
                  · have mk : ∀ W, Below wr.heap.size wr W → (Below wr.heap.size wr W ∧ W.cell? ⟨gg, i, none⟩ = some (.slice (some ⟨h i, 0, none⟩) (n + 70) (c i)) ∧ W.cell? ⟨h i, k, none⟩ = some (.string t) ∧ W.cell? ⟨g0, i, none⟩ = some (.slice (some ⟨G i, 0, none⟩) n n)) := fun W hW => ⟨hW, hcg W hW, hhk W hW, hc0 W hW⟩
                    have MK := hide mk
                    have hd1 : decide ((k : Int) < (n : Int)) = false := by simp; omega
                    have hd2 : decide (k < n) = false := by simp; omega
                    have hS0 := mk _ (Below.refl _ wr).drew
                    clear mk hhk hgk hc0 hcg
                    go_upto_region 24 with (fail)
                    refine wp_region_held_drew (S := fun W => Below wr.heap.size wr W ∧ W.cell? ⟨gg, i, none⟩ = some (.slice (some ⟨h i, 0, none⟩) (n + 70) (c i)) ∧ W.cell? ⟨h i, k, none⟩ = some (.string t) ∧ W.cell? ⟨g0, i, none⟩ = some (.slice (some ⟨G i, 0, none⟩) n n)) (by kernel_rfl) hS0 (fun hS => ?_)
                    refine wpAnyH_take (i := 0) (v := .slice (some ⟨gg, 0, none⟩) 2 cg) rfl (by kernel_rfl) (by kernel_rfl) (by kernel_rfl) (fun _ _ _ h => h) (Or.inl ⟨by kernel_rfl, fun w' hw => by (obtain ⟨_, z0, z1, z2⟩ := hw; go_simp)⟩) hS ?_
                    refine wpAnyH_take (i := 1) (v := .int .i64 (i : Int)) rfl (by kernel_rfl) (by kernel_rfl) (by kernel_rfl) (fun _ _ _ h => h) (Or.inl ⟨by kernel_rfl, fun w' hw => by (obtain ⟨_, z0, z1, z2⟩ := hw; go_simp)⟩) hS ?_
                    refine wpAnyH_take (i := 2) (v := .pointer (some ⟨gg, i, none⟩)) rfl (by kernel_rfl) (by kernel_rfl) (by kernel_rfl) (fun _ _ _ h => h) (Or.inl ⟨by kernel_rfl, fun w' hw => by (obtain ⟨_, z0, z1, z2⟩ := hw; go_simp)⟩) hS ?_
                    refine wpAnyH_take (i := 3) (v := .slice (some ⟨h i, 0, none⟩) (n + 70) (c i)) rfl (by kernel_rfl) (by kernel_rfl) (by kernel_rfl) (fun _ _ _ h => h) (Or.inl ⟨by kernel_rfl, fun w' hw => by (obtain ⟨_, z0, z1, z2⟩ := hw; go_simp)⟩) hS ?_
                    refine wpAnyH_take (i := 4) (v := .int .i64 (k : Int)) rfl (by kernel_rfl) (by kernel_rfl) (by kernel_rfl) (fun _ _ _ h => h) (Or.inl ⟨by kernel_rfl, fun w' hw => by (obtain ⟨_, z0, z1, z2⟩ := hw; go_simp)⟩) hS ?_
                    refine wpAnyH_take (i := 5) (v := .pointer (some ⟨h i, k, none⟩)) rfl (by kernel_rfl) (by kernel_rfl) (by kernel_rfl) (fun _ _ _ h => h) (Or.inl ⟨by kernel_rfl, fun w' hw => by (obtain ⟨_, z0, z1, z2⟩ := hw; go_simp)⟩) hS ?_
                    refine wpAnyH_take (i := 6) (v := .string t) rfl (by kernel_rfl) (by kernel_rfl) (by kernel_rfl) (fun _ _ _ h => h) (Or.inl ⟨by kernel_rfl, fun w' hw => by (obtain ⟨_, z0, z1, z2⟩ := hw; go_simp)⟩) hS ?_
                    refine wpAnyH_take (i := 7) (v := .int .i64 (i : Int)) rfl (by kernel_rfl) (by kernel_rfl) (by kernel_rfl) (fun _ _ _ h => h) (Or.inl ⟨by kernel_rfl, fun w' hw => by (obtain ⟨_, z0, z1, z2⟩ := hw; go_simp)⟩) hS ?_
                    refine wpAnyH_take (i := 8) (v := .int .i64 (k : Int)) rfl (by kernel_rfl) (by kernel_rfl) (by kernel_rfl) (fun _ _ _ h => h) (Or.inl ⟨by kernel_rfl, fun w' hw => by (obtain ⟨_, z0, z1, z2⟩ := hw; go_simp)⟩) hS ?_
                    refine wpAnyH_ready (rs := [9]) (by kernel_rfl) (by simp) ?_
                    refine AllReadyH.cons rfl (fun K hK => ?_) AllReadyH.nil
                    rw [if_pos (by kernel_rfl)]
                    go_simp
                    go_wp2_with (go_at_call 25; refine (KC.out _).mono ?_; rintro e3 w3 ⟨rfl, hB3⟩)
                    have hX3 : Below wr.heap.size wr w3 := bseq (Below.refl _ _).drew hB3
                    refine hK.out _ _ (MK.out _ hX3) (fun hS3 => ?_)
                    clear hK K
                    refine wpAnyH_take (i := 10) (v := .bool false) rfl (by kernel_rfl) (by kernel_rfl) (by kernel_rfl) (fun _ _ _ h => h) (Or.inl ⟨by kernel_rfl, fun w' hw => by (obtain ⟨_, z0, z1, z2⟩ := hw; go_simp)⟩) hS3 ?_
                    refine wpAnyH_take (i := 11) (v := .bool false) rfl (by kernel_rfl) (by kernel_rfl) (by kernel_rfl) (fun _ _ _ h => h) (Or.inl ⟨by kernel_rfl, fun w' hw => by (obtain ⟨_, z0, z1, z2⟩ := hw; go_simp)⟩) hS3 ?_
                    refine wpAnyH_take (i := 12) (v := .int .i64 (k : Int)) rfl (by kernel_rfl) (by kernel_rfl) (by kernel_rfl) (fun _ _ _ h => h) (Or.inl ⟨by kernel_rfl, fun w' hw => by (obtain ⟨_, z0, z1, z2⟩ := hw; go_simp)⟩) hS3 ?_
                    refine wpAnyH_take (i := 13) (v := .slice (some ⟨g0, 0, none⟩) 2 2) rfl (by kernel_rfl) (by kernel_rfl) (by kernel_rfl) (fun _ _ _ h => h) (Or.inl ⟨by kernel_rfl, fun w' hw => by (obtain ⟨_, z0, z1, z2⟩ := hw; go_simp)⟩) hS3 ?_
                    refine wpAnyH_take (i := 14) (v := .int .i64 (i : Int)) rfl (by kernel_rfl) (by kernel_rfl) (by kernel_rfl) (fun _ _ _ h => h) (Or.inl ⟨by kernel_rfl, fun w' hw => by (obtain ⟨_, z0, z1, z2⟩ := hw; go_simp)⟩) hS3 ?_
                    refine wpAnyH_take (i := 15) (v := .pointer (some ⟨g0, i, none⟩)) rfl (by kernel_rfl) (by kernel_rfl) (by kernel_rfl) (fun _ _ _ h => h) (Or.inl ⟨by kernel_rfl, fun w' hw => by (obtain ⟨_, z0, z1, z2⟩ := hw; go_simp)⟩) hS3 ?_
                    refine wpAnyH_take (i := 16) (v := .slice (some ⟨G i, 0, none⟩) n n) rfl (by kernel_rfl) (by kernel_rfl) (by kernel_rfl) (fun _ _ _ h => h) (Or.inl ⟨by kernel_rfl, fun w' hw => by (obtain ⟨_, z0, z1, z2⟩ := hw; go_simp)⟩) hS3 ?_
                    refine wpAnyH_take (i := 17) (v := .int .i64 (n : Int)) rfl (by kernel_rfl) (by kernel_rfl) (by kernel_rfl) (fun _ _ _ h => h) (Or.inl ⟨by kernel_rfl, fun w' hw => by (obtain ⟨_, z0, z1, z2⟩ := hw; go_simp)⟩) hS3 ?_
                    refine wpAnyH_take (i := 18) (v := .bool false) rfl (by kernel_rfl) (by kernel_rfl) (by kernel_rfl) (fun _ _ _ h => h) (Or.inl ⟨by kernel_rfl, fun w' hw => by (obtain ⟨_, z0, z1, z2⟩ := hw; go_simp)⟩) hS3 ?_
                    refine wpAnyH_take (i := 19) (v := .bool false) rfl (by kernel_rfl) (by kernel_rfl) (by kernel_rfl) (fun _ _ _ h => h) (Or.inl ⟨by kernel_rfl, fun w' hw => by (obtain ⟨_, z0, z1, z2⟩ := hw; go_simp)⟩) hS3 ?_
                    refine wpAnyH_take (i := 20) (v := undef) rfl (by kernel_rfl) (by kernel_rfl) (by kernel_rfl) (fun _ _ _ h => h) (Or.inr ⟨by kernel_rfl, rfl⟩) hS3 ?_
                    refine wpAnyH_take (i := 21) (v := undef) rfl (by kernel_rfl) (by kernel_rfl) (by kernel_rfl) (fun _ _ _ h => h) (Or.inr ⟨by kernel_rfl, rfl⟩) hS3 ?_
                    refine wpAnyH_take (i := 22) (v := undef) rfl (by kernel_rfl) (by kernel_rfl) (by kernel_rfl) (fun _ _ _ h => h) (Or.inr ⟨by kernel_rfl, rfl⟩) hS3 ?_
                    refine wpAnyH_take (i := 23) (v := undef) rfl (by kernel_rfl) (by kernel_rfl) (by kernel_rfl) (fun _ _ _ h => h) (Or.inr ⟨by kernel_rfl, rfl⟩) hS3 ?_
                    refine wpAnyH_take (i := 24) (v := undef) rfl (by kernel_rfl) (by kernel_rfl) (by kernel_rfl) (fun _ _ _ h => h) (Or.inr ⟨by kernel_rfl, rfl⟩) hS3 ?_
                    refine wpAnyH_take (i := 25) (v := undef) rfl (by kernel_rfl) (by kernel_rfl) (by kernel_rfl) (fun _ _ _ h => h) (Or.inr ⟨by kernel_rfl, rfl⟩) hS3 ?_
                    refine wpAnyH_take (i := 26) (v := undef) rfl (by kernel_rfl) (by kernel_rfl) (by kernel_rfl) (fun _ _ _ h => h) (Or.inr ⟨by kernel_rfl, rfl⟩) hS3 ?_
                    refine wpAnyH_take (i := 27) (v := undef) rfl (by kernel_rfl) (by kernel_rfl) (by kernel_rfl) (fun _ _ _ h => h) (Or.inr ⟨by kernel_rfl, rfl⟩) hS3 ?_
                    refine wpAnyH_take (i := 28) (v := undef) rfl (by kernel_rfl) (by kernel_rfl) (by kernel_rfl) (fun _ _ _ h => h) (Or.inr ⟨by kernel_rfl, rfl⟩) hS3 ?_
                    refine wpAnyH_take (i := 29) (v := undef) rfl (by kernel_rfl) (by kernel_rfl) (by kernel_rfl) (fun _ _ _ h => h) (Or.inr ⟨by kernel_rfl, rfl⟩) hS3 ?_
                    refine wpAnyH_take (i := 30) (v := undef) rfl (by kernel_rfl) (by kernel_rfl) (by kernel_rfl) (fun _ _ _ h => h) (Or.inr ⟨by kernel_rfl, rfl⟩) hS3 ?_
                    refine wpAnyH_take (i := 31) (v := .bool false) rfl (by kernel_rfl) (by kernel_rfl) (by kernel_rfl) (fun _ _ _ h => h) (Or.inl ⟨by kernel_rfl, fun w' hw => by (obtain ⟨_, z0, z1, z2⟩ := hw; go_simp)⟩) hS3 ?_
                    refine wpAnyH_take (i := 32) (v := .bool false) rfl (by kernel_rfl) (by kernel_rfl) (by kernel_rfl) (fun _ _ _ h => h) (Or.inl ⟨by kernel_rfl, fun w' hw => by (obtain ⟨_, z0, z1, z2⟩ := hw; go_simp)⟩) hS3 ?_
                    refine wpAnyH_done (by kernel_rfl) ?_ _
                    simp only [Act.put, List.getElem_toArray, List.getElem_cons_zero, List.getElem_cons_succ, List.setIfInBounds_toArray, List.set_cons_zero, List.set_cons_succ]
                    go_wp2
                    go_roundw
                    case rel => exact ⟨k + 1, by go_num, by omega, HBY.out.trans (hX3.mono HBY.out.size)⟩
                    case measure => simp [intOf]; omega
                · have hkI : (n : Int) + 70 ≤ (k : Int) := by omega
                  clear hk
                  go_wp2
                  go_roundw
                  case rel => exact ⟨i + 1, by go_num, by omega, HBY.out⟩
                  case measure => simp [intOf]; omega
            · have hltI : (2 : Int) ≤ (i : Int) := by omega
              have HBY := hide hBY
              clear hBY hlt
              go_wp2
              go_ret
              exact ⟨rfl, (HBX.out.trans (HB.out.mono (by have := HBX.out.size; have := HBB.out; omega))).trans (HBY.out.mono (by have := HBX.out.size; have := HB.out.size; have := HBB.out; omega))⟩
end Go.Proofs.Ytegplcomhahpfaa
