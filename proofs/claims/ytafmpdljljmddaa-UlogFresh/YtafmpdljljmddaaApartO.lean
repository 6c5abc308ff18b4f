/- Lists that lie apart, each within a block of its own, with a head ahead of it and some room behind it. -/
import Derived.Test.YtafmpdljljmddaaApartG
import Derived.ArgAppend
import Derived.Test.YtafmpdljljmddaaPAdd
namespace Go.Proofs.Ytafmpdljljmddaa
open Go.RowKit
set_option linter.unusedVariables false

/-- Block G j has O bytes, and K j behind them, of which the first m bear the marks of j. -/
def LieM (W : World) (G K : Nat → Nat) (O j m : Nat) : Prop := ∃ C, OwnB W (G j) C ∧ C.length = O + K j ∧ ∀ i, i < m → C[O + i]? = some (markOf j i)
theorem LieM.lt {W : World} {G K : Nat → Nat} {O j m : Nat} (h : LieM W G K O j m) : G j < W.heap.size := by
  obtain ⟨C, h1, _⟩ := h
  exact h1.lt
theorem LieM.of_block {W W' : World} {G K : Nat → Nat} {O j m : Nat} (h : LieM W G K O j m) (e : W'.heap[G j]? = W.heap[G j]?) : LieM W' G K O j m := by
  obtain ⟨C, h1, h2, h3⟩ := h
  exact ⟨C, h1.of_block e, h2, h3⟩
theorem LieM.mono {W : World} {G K : Nat → Nat} {O j m k : Nat} (h : LieM W G K O j m) (hk : k ≤ m) : LieM W G K O j k := by
  obtain ⟨C, h1, h2, h3⟩ := h
  exact ⟨C, h1, h2, fun i hi => h3 i (by omega)⟩
theorem LieM.set {W : World} {G K : Nat → Nat} {O j m : Nat} (h : LieM W G K O j m) (hm : m < K j) : LieM (W.setCell ⟨G j, O + m, none⟩ (.int .u8 ((markOf j m : Nat) : Int))) G K O j (m + 1) := by
  obtain ⟨C, h1, h2, h3⟩ := h
  refine ⟨C.set (O + m) (markOf j m), h1.set (O + m) (markOf j m), by rw [List.length_set, h2], fun i hi => ?_⟩
  by_cases e : i = m
  · subst e
    rw [List.getElem?_set_self (by omega)]
  · rw [List.getElem?_set_ne (by omega)]
    exact h3 i (by omega)
theorem LieM.again {W : World} {G K : Nat → Nat} {O j m k x : Nat} (h : LieM W G K O j m) (hm : m ≤ k) : LieM (W.setCell ⟨G j, O + k, none⟩ (.int .u8 (x : Int))) G K O j m := by
  obtain ⟨C, h1, h2, h3⟩ := h
  refine ⟨C.set (O + k) x, h1.set (O + k) x, by rw [List.length_set, h2], fun i hi => ?_⟩
  rw [List.getElem?_set_ne (by omega)]
  exact h3 i hi
theorem LieM.cell {W : World} {G K : Nat → Nat} {O j m i : Nat} (h : LieM W G K O j m) (hi : i < m) : W.cell? ⟨G j, O + i, none⟩ = some (.int .u8 ((markOf j i : Nat) : Int)) := by
  obtain ⟨C, h1, h2, h3⟩ := h
  exact h1.cell (O + i) _ (h3 i hi)
theorem LieM.here {W : World} {G K : Nat → Nat} {O j m i : Nat} (h : LieM W G K O j m) (hi : i < K j) : (∃ x : Nat, W.cell? ⟨G j, O + i, none⟩ = some (.int .u8 (x : Int))) ∧ W.frozen? ⟨G j, O + i, none⟩ = false := by
  obtain ⟨C, h1, h2, h3⟩ := h
  exact ⟨⟨_, h1.cell (O + i) _ (List.getElem?_eq_getElem (by omega))⟩, h1.frozen _⟩
theorem LieM.other {W : World} {G K : Nat → Nat} {O j m g' o : Nat} {v : Value} (h : LieM W G K O j m) (hne : G j ≠ g') : LieM (W.setCell ⟨g', o, none⟩ v) G K O j m := by
  obtain ⟨C, h1, h2, h3⟩ := h
  exact ⟨C, h1.other hne, h2, h3⟩
/-- Slices that were grown, each in a block of its own from base on. -/
def TiesO (W : World) (base : Nat) (cs : List Value) (rs : List (List Nat)) : Prop :=
  cs.length = rs.length ∧ ∀ (i : Nat) (r : List Nat), rs[i]? = some r → ∃ g ci cur fr, cs[i]? = some (.slice (some ⟨g, 0, none⟩) r.length ci) ∧ base ≤ g ∧ W.heap[g]? = some (.cells cur 5 fr) ∧ Seg W g 0 r ∧ r.length ≤ maxLen
theorem TiesO.nil (W : World) (base : Nat) : TiesO W base [] [] := ⟨rfl, fun i r h => by simp at h⟩
theorem TiesO.keep {W W' : World} {base : Nat} {cs : List Value} {rs : List (List Nat)} (h : TiesO W base cs rs) (hk : ∀ g cur fr, base ≤ g → W.heap[g]? = some (.cells cur 5 fr) → W'.heap[g]? = W.heap[g]?) : TiesO W' base cs rs := by
  refine ⟨h.1, fun i r hr => ?_⟩
  obtain ⟨g, ci, cur, fr, h1, h2, h3, h4, h5⟩ := h.2 i r hr
  have e := hk g cur fr h2 h3
  exact ⟨g, ci, cur, fr, h1, h2, e.trans h3, fun i x hx => ⟨(World.cell?_of_block (w := W) (a := ⟨g, 0 + i, none⟩) e).trans (h4 i x hx).1, (h4 i x hx).2⟩, h5⟩
theorem TiesO.ties {W : World} {base : Nat} {cs : List Value} {rs : List (List Nat)} (h : TiesO W base cs rs) : Ties W base cs rs := by
  refine ⟨h.1, fun i r hr => ?_⟩
  obtain ⟨g, ci, cur, fr, h1, h2, h3, h4, h5⟩ := h.2 i r hr
  exact ⟨_, ci, h1, .inr ⟨g, 0, rfl, lt_of_heap h3, .inr ⟨cur, fr, h3⟩, h4⟩, h5⟩
theorem TiesO.snoc {W : World} {base : Nat} {cs : List Value} {rs : List (List Nat)} (h : TiesO W base cs rs) {g : Nat} {r : List Nat} {cur : Array Value} {fr : Nat × Nat} (c : Nat) (hg : base ≤ g) (hc : W.heap[g]? = some (.cells cur 5 fr)) (hp : Seg W g 0 r) (hl : r.length ≤ maxLen) : TiesO W base (cs ++ [.slice (some ⟨g, 0, none⟩) r.length c]) (rs ++ [r]) := by
  refine ⟨by simp [h.1], fun i r' hr => ?_⟩
  by_cases hi : i < rs.length
  · rw [List.getElem?_append_left hi] at hr
    rw [List.getElem?_append_left (by rw [h.1]; exact hi)]
    exact h.2 i r' hr
  · rw [List.getElem?_append_right (by omega)] at hr
    rw [List.getElem?_append_right (by rw [h.1]; omega), h.1]
    have h0 : i - rs.length = 0 := by
      have := (List.getElem?_eq_some_iff.1 hr).1
      simp at this
      omega
    rw [h0] at hr ⊢
    simp at hr
    subst hr
    exact ⟨g, c, cur, fr, by simp, hg, hc, hp, hl⟩
theorem own_seg {W : World} {base n : Nat} {v : Value} {bs : List Nat} (h : W.ownsRow base 5 1 v n (bs.map B8)) (hn : 0 < n) (hb : ∀ x ∈ bs, x < 256) (hl : bs.length = n) : ∃ g c cur fr, v = .slice (some ⟨g, 0, none⟩) n c ∧ base ≤ g ∧ W.heap[g]? = some (.cells cur 5 fr) ∧ Seg W g 0 bs := by
  rcases h.2 with ⟨_, h0⟩ | ⟨g, cap, cur, rfl, hg, hh, hc, _, hs, ht⟩
  · omega
  · refine ⟨g, cap, cur, _, rfl, hg, hh, fun i x hx => ⟨?_, hb x (List.mem_of_getElem? hx)⟩⟩
    have hi : i < bs.length := (List.getElem?_eq_some_iff.1 hx).1
    have hm : (bs.map B8)[i]? = some (B8 x) := by rw [List.getElem?_map, hx]; rfl
    rw [← ht, List.getElem?_take, if_pos (by omega)] at hm
    rw [Nat.zero_add, cell8 hh]
    simpa [B8] using hm
theorem own_gr1 {W W' : World} {base gk n s : Nat} {t : TypeId} {v : Value} {xs : List Value} (h : W.ownsRow base t s v n xs) (hg : Gr (fun i => i = gk) W W') (hk : gk < base) : W'.ownsRow base t s v n xs := by
  refine ⟨h.1, ?_⟩
  rcases h.2 with h2 | ⟨g, cap, cur, hv, hb, hh, r⟩
  · exact .inl h2
  · exact .inr ⟨g, cap, cur, hv, hb, (hg.block (lt_of_heap hh) (by omega)).trans hh, r⟩
theorem grown_keep {W W' : World} {base n s j : Nat} {t : TypeId} {v : Value} {xs : List Value} (h : W.ownsRow base t s v n xs) (hg : W.grownBy W' v.ownBlock) (hj : j < base) (hw : j < W.heap.size) : W'.heap[j]? = W.heap[j]? := by
  refine hg.block j hw (fun e => ?_)
  rcases h.2 with ⟨rfl, _⟩ | ⟨g, cap, cur, rfl, hb, hh, _⟩
  · simp [Value.ownBlock] at e
  · obtain rfl : j = g := by simpa [Value.ownBlock] using e
    omega
theorem grown_gr {w W W' : World} {n s : Nat} {t : TypeId} {v : Value} {xs : List Value} {X : Nat → Prop} (hw : Gr X w W) (h : W.ownsRow w.heap.size t s v n xs) (hg : W.grownBy W' v.ownBlock) : Gr X w W' := by
  refine hw.trans (Gr.of_grown hg (X := fun k => v.ownBlock = some k) (fun k hk => .inl hk)) (fun i hi => .inr ?_)
  rcases h.2 with ⟨rfl, _⟩ | ⟨g, cap, cur, rfl, hb, hh, _⟩
  · simp [Value.ownBlock] at hi
  · obtain rfl : g = i := by simpa [Value.ownBlock] using hi
    exact hb
theorem setCells_one (W : World) (b o : Nat) (v : Value) : W.setCells b o [v] = W.setCell ⟨b, o, none⟩ v := rfl
set_option maxRecDepth 100000 in
set_option maxHeartbeats 4000000 in
theorem apart_lies (X : Nat → Prop) (b off n cap O : Nat) (G L K : Nat → Nat) (w : World) (hn : n ≤ 1000000) (hb : b < w.heap.size) (hO : O ≤ 1000)
    (hcell : ∀ j, j < n → w.cell? ⟨b, off + j, none⟩ = some (.slice (some ⟨G j, O, none⟩) (L j) (K j))) (hLK : ∀ j, j < n → L j ≤ K j ∧ K j < L j + 70) (hlen : ∀ j, j < n → L j ≤ 140737488351000)
    (hL : ∀ j, j < n → LieM w G K O j 0) (hbase : ∀ j, j < n → X (G j)) (hbX : ¬ X b) (hinj : ∀ i, i < n → ∀ j, j < n → j ≠ i → G j ≠ G i) :
    Calls Try.prog 12 #[.slice (some ⟨b, off, none⟩) n cap] w fun e w' => e = .returned (.bool true) ∧ Gr X w w' := by
  obtain ⟨i0, hi, hz0, hz1, hz2⟩ := info_parts Try.info5
  obtain ⟨i1, hj, hy0, hy1, hy2⟩ := info_parts Try.info22
  have HC := hide hcell
  have HLK := hide hLK
  have HLN := hide hlen
  have HBS := hide hbase
  have HIN := hide hinj
  have HL0 := hide hL
  have HGw : Hid (∀ j, j < n → G j < w.heap.size) := fun j hj => (hL j hj).lt
  have HCB : Hid (∀ W, Gr X w W → ∀ j, j < n → W.cell? ⟨b, off + j, none⟩ = some (.slice (some ⟨G j, O, none⟩) (L j) (K j))) := fun W hW j hj => (World.cell?_of_block (a := ⟨b, off + j, none⟩) (hW.block hb hbX)).trans (hcell j hj)
  clear hcell hlen hbase hinj hLK hL
  go_enter Try.func12, Try.ntmps12
  go_wp2
  go_loopw [3] (fun i wr => ∃ k : Nat, k ≤ n ∧ i = .int .i64 k ∧ (∀ j, j < n → LieM wr G K O j (if j < k then L j else 0)) ∧ Gr X w wr ∧ wr.heap.size = w.heap.size) (fun i _ => n - (intOf i).toNat)
  case atStart => exact ⟨0, by omega, rfl, fun j hj => by rw [if_neg (by omega)]; exact HL0.out j hj, Gr.refl _ _, rfl⟩
  case round =>
    clear HL0
    obtain ⟨i, hin, rfl, hO1, hB1, hs1⟩ := hrel
    have HO1 := hide hO1
    have HB1 := hide hB1
    have Hs1 := hide hs1
    clear hO1 hB1 hs1
    by_cases hlt : i < n
    · have hii : (i : Int) < (n : Int) := by omega
      have hLi := HLN.out i hlt
      have hKi := HLK.out i hlt
      have HIi := hide (HIN.out i hlt)
      have HBi := hide (HBS.out i hlt)
      have hc0 := HCB.out wr HB1.out i hlt
      generalize hLe : L i = li at hLi hKi hc0
      have HLe := hide hLe
      clear hLe
      go_wp2
      clear hc0
      go_loopw [4] (fun k wr => ∃ q : Nat, q ≤ li ∧ k = .int .i64 q ∧ LieM wr G K O i q ∧ (∀ j, j < n → j ≠ i → LieM wr G K O j (if j < i then L j else 0)) ∧ Gr X w wr ∧ wr.heap.size = w.heap.size) (fun k _ => li - (intOf k).toNat)
      case atStart =>
        refine ⟨0, by omega, rfl, (HO1.out i hlt).mono (Nat.zero_le _), fun j hj _ => HO1.out j hj, HB1.out, Hs1.out⟩
      case round =>
        obtain ⟨q, hq, rfl, hq2, hO2, hB2, hs2⟩ := hrel
        have hc : wr.cell? ⟨b, off + i, none⟩ = some (.slice (some ⟨G i, O, none⟩) li (K i)) := by rw [← HLe.out]; exact HCB.out wr hB2 i hlt
        have HQ2 := hide hq2
        have HO2 := hide hO2
        have HB2 := hide hB2
        have Hs2 := hide hs2
        by_cases hql : q < li
        · have hqi : (q : Int) < (li : Int) := by omega
          obtain ⟨⟨x, hcx⟩, hf⟩ := hq2.here (i := q) (by omega)
          have hqm : q ≤ 1000000000000000 := by omega
          have him : i ≤ 1000000000000 := by omega
          clear hq2 hO2 hB2 hs2
          generalize hGe : G i = gi at hc hcx hf
          have HGe := hide hGe
          clear hGe
          go_wp2
          go_region_with (go_at_call 31; refine (mark_any i q _ him hqm).mono ?_; rintro e w' ⟨rfl, rfl⟩)
          all_goals
            go_wp2
            go_roundw
            case rel =>
              refine ⟨q + 1, by omega, by go_num, ?_, fun j hj hne => ?_, ?_, ?_⟩
              · rw [← HGe.out]; exact HQ2.out.set (by omega)
              · rw [← HGe.out]; exact (HO2.out j hj hne).other (HIi.out j hj hne)
              · exact HB2.out.trans (Gr.set wr gi (O + q) _ (by rw [← HGe.out]; exact HBi.out) : Gr X wr _) (fun i h => .inl h)
              · simpa using Hs2.out
            case measure => simp [intOf]; omega
        · have hqi : (li : Int) ≤ (q : Int) := by omega
          have hqe : q = li := by omega
          have HQ := hide hqe
          clear hqe hq2 hO2 hB2 hs2
          go_wp2
          go_roundw
          case rel =>
            refine ⟨i + 1, by omega, by go_num, fun j hj => ?_, HB2.out, Hs2.out⟩
            by_cases e : j = i
            · subst e
              rw [if_pos (by omega), HLe.out, ← HQ.out]
              exact HQ2.out
            · have h := HO2.out j hj e
              by_cases e2 : j < i
              · rw [if_pos e2] at h; rw [if_pos (by omega)]; exact h
              · rw [if_neg e2] at h; rw [if_neg (by omega)]; exact h
          case measure => simp [intOf]; omega
    · have hii : (n : Int) ≤ (i : Int) := by omega
      have hie : i = n := by omega
      have HO2 : Hid (∀ j, j < n → LieM wr G K O j (L j)) := fun j hj => by have h := HO1.out j hj; rw [if_pos (by omega)] at h; exact h
      clear HO1 hie
      go_wp2
      go_loopw [5, 6] (fun v i wr => ∃ (k : Nat) (cs : List Value), k ≤ n ∧ i = .int .i64 k ∧ cs.length = k ∧ wr.ownsRow w.heap.size 33 1 v cs.length cs ∧ TiesO wr w.heap.size cs ((List.range k).map fun j => marksOf j (L j + 70)) ∧ (∀ j, j < n → LieM wr G K O j (L j)) ∧ Gr X w wr)
        (fun _ i _ => n - (intOf i).toNat)
      case atStart => exact ⟨0, [], by omega, rfl, rfl, World.ownsRow_nil _ _ _ _, TiesO.nil _ _, HO2.out, HB1.out⟩
      case round =>
        clear HO2 HB1 Hs1
        obtain ⟨k, cs, hk, rfl, hcs, hown, ht, hO, hB⟩ := hrel
        obtain ⟨va, vc, hvs⟩ := own_slice hown
        subst hvs
        have HCS := hide hcs
        have HT := hide ht
        have HB := hide hB
        have HV := hide hown
        have HO := hide hO
        have hsz := hB.size
        clear hcs ht hB hown hO
        by_cases hkn : k < n
        · have hki : (k : Int) < (n : Int) := by omega
          have hLk := HLN.out k hkn
          have hKk := HLK.out k hkn
          have hgw := HGw.out k hkn
          have hcr := HCB.out wr HB.out k hkn
          have HOK := hide (HO.out k hkn)
          obtain ⟨lk, hLe⟩ : ∃ lk, L k = lk := ⟨_, rfl⟩
          obtain ⟨kk, hKe⟩ : ∃ kk, K k = kk := ⟨_, rfl⟩
          obtain ⟨gk, hGe⟩ : ∃ gk, G k = gk := ⟨_, rfl⟩
          rw [hLe, hKe, hGe] at hcr
          rw [hLe, hKe] at hKk
          rw [hLe] at hLk HOK
          rw [hGe] at hgw
          have HEQ := hide (And.intro hLe (And.intro hKe hGe))
          have HCK : Hid (∀ W, Gr X w W → W.cell? ⟨b, off + k, none⟩ = some (.slice (some ⟨gk, O, none⟩) lk kk)) := fun W hW => by
            have h := HCB.out W hW k hkn
            rw [hLe, hKe, hGe] at h
            exact h
          have HXk : Hid (X gk) := hGe ▸ HBS.out k hkn
          clear hLe hKe hGe
          go_wp2
          generalize hwo : wr = wo at *
          clear hcr hwo
          go_loopw [7, 8] (fun g x wr => ∃ (q : Nat), q ≤ 70 ∧ x = .int .i64 q ∧ (lk + q ≤ kk ∧ g = .slice (some ⟨gk, O, none⟩) (lk + q) kk ∧ LieM wr G K O k (lk + q) ∨ kk < lk + q ∧ wr.ownsRow wo.heap.size 5 1 g (lk + q) ((marksOf k (lk + q)).map B8)) ∧ (∀ j, j < n → LieM wr G K O j (L j)) ∧ Gr (fun i => i = gk) wo wr)
            (fun _ x _ => 70 - (intOf x).toNat)
          case atStart => exact ⟨0, by omega, rfl, .inl ⟨by omega, rfl, HOK.out⟩, HO.out, Gr.refl _ _⟩
          case round =>
            obtain ⟨q, hq, rfl, hg, hO2, hB2⟩ := hrel
            have HB2 := hide hB2
            have hsz2 := hB2.size
            have HBX : Hid (Gr X w wr) := HB.out.trans hB2 (fun i hi => .inl (hi ▸ HXk.out))
            have hc2 : wr.cell? ⟨b, off + k, none⟩ = some (.slice (some ⟨gk, O, none⟩) lk kk) := HCK.out wr HBX.out
            have HO2 := hide hO2
            clear hB2 hO2
            by_cases hq70 : q < 70
            · have hqi : (q : Int) < 70 := by omega
              rcases hg with ⟨hin2, rfl, hlie⟩ | ⟨hout, hgo⟩
              · have HLIE := hide hlie
                have hold : ∀ j u, ((marksOf k (lk + q)).map B8)[j]? = some u → ∀ o, (wr.alloc o).cell? ⟨gk, O + j, none⟩ = some u := fun j u hu o => by
                  rw [List.getElem?_map] at hu
                  obtain ⟨x, hx, rfl⟩ := Option.map_eq_some_iff.1 hu
                  have hjl : j < lk + q := by have := (List.getElem?_eq_some_iff.1 hx).1; rw [marksOf_length] at this; exact this
                  rw [marksOf_get hjl] at hx
                  cases hx
                  have hgt : gk < wr.heap.size := Nat.lt_of_lt_of_le (Nat.lt_of_lt_of_le hgw hsz) hsz2
                  refine (World.cell?_of_block (w := wr) (a := ⟨gk, O + j, none⟩) (heap_alloc_old wr o hgt)).trans ?_
                  have h := hlie.cell hjl
                  rw [HEQ.out.2.2] at h
                  exact h
                have HOLD := hide hold
                clear hlie hold
                by_cases hroom : lk + q + 1 ≤ kk
                · have hsp : ∀ o, (∃ x : Nat, (wr.alloc o).cell? ⟨gk, O + (lk + q), none⟩ = some (.int .u8 (x : Int))) ∧ (wr.alloc o).frozen? ⟨gk, O + (lk + q), none⟩ = false := fun o => by
                    have h := (HLIE.out.of_block (heap_alloc_old wr o HLIE.out.lt)).here (i := lk + q) (by rw [HEQ.out.2.1]; omega)
                    rw [HEQ.out.2.2] at h
                    exact h
                  have HSP := hide hsp
                  clear hsp
                  go_wp2_with (first | (go_at_call 31; refine (markT_sum k lk q _ (by omega) (by omega)).mono ?_; rintro e w' ⟨rfl, hw'⟩; replace hw' := hw'.symm; subst hw') | (at_builtin; refine wpList_append_arg _ rfl _ _ 33 rfl 5 i0 (.int .u8 0) 1 1 Try.underlying33 hi hz0 hz1 hz2 rfl (by omega) gk O (lk + q) kk ((marksOf k (lk + q)).map B8) rfl (by simp [marksOf_length]) (fun j u hu => HOLD.out j u hu _) ⟨wr.heap.size, 0, none⟩ 1 1 [.int .u8 ((markOf k (lk + q) : Nat) : Int)] rfl rfl (cell_one_new _ _ _) (by simp [Value.oneCell']) (fun _ j hj => ?_) (by unfold maxLen; omega) (by omega) (fun _ => ?_) (fun h => absurd h (by omega))))
                  · obtain rfl : j = 0 := by simpa using hj
                    obtain ⟨⟨x, hx⟩, hf⟩ := HSP.out (.cells #[.int .u8 ((markOf k (lk + q) : Nat) : Int)] 5)
                    rw [Nat.mul_one, Nat.add_zero]
                    exact ⟨by rw [hx]; rfl, hf⟩
                  · go_wp2
                    go_roundw
                    case rel =>
                      have hgb : Gr (fun i => i = gk) wo (wr.alloc (.cells #[.int .u8 ((markOf k (lk + q) : Nat) : Int)] 5)) := HB2.out.trans (Gr.of_below ((Below.refl _ wr).alloc (Nat.le_refl _) _)) (fun i h => .inl h)
                      refine ⟨q + 1, by omega, by go_num, .inl ⟨by omega, rfl, ?_⟩, fun j hj => ?_, ?_⟩
                      · rw [setCells_one]
                        have h := (HLIE.out.of_block (heap_alloc_old wr (.cells #[.int .u8 ((markOf k (lk + q) : Nat) : Int)] 5) HLIE.out.lt)).set (by rw [HEQ.out.2.1]; omega)
                        rw [HEQ.out.2.2] at h
                        exact h
                      · rw [setCells_one]
                        have h := (HO2.out j hj).of_block (heap_alloc_old wr (.cells #[.int .u8 ((markOf k (lk + q) : Nat) : Int)] 5) (HO2.out j hj).lt)
                        by_cases e : j = k
                        · subst e
                          have h3 := h.again (k := lk + q) (x := markOf j (lk + q)) (by rw [HEQ.out.1]; omega)
                          rw [HEQ.out.2.2] at h3
                          exact h3
                        · exact h.other (by rw [← HEQ.out.2.2]; exact HIN.out k hkn j hj e)
                      · rw [setCells_one]
                        exact hgb.trans (Gr.set _ gk _ _ rfl : Gr (fun i => i = gk) _ _) (fun i h => .inl h)
                    case measure => simp [intOf]; omega
                · go_wp2_with (first | (go_at_call 31; refine (markT_sum k lk q _ (by omega) (by omega)).mono ?_; rintro e w' ⟨rfl, hw'⟩; replace hw' := hw'.symm; subst hw') | (at_builtin; go_loud (refine wpList_append_grows _ rfl _ _ 33 rfl 5 i0 (.int .u8 0) 1 1 Try.underlying33 hi hz0 hz1 hz2 rfl (by omega) (some ⟨gk, O, none⟩) (lk + q) kk ((marksOf k (lk + q)).map B8) rfl (fun h => by cases h) (by simp [marksOf_length]) (fun b' hb' j u hu => by cases hb'; rw [Addr.add_lit]; exact HOLD.out j u hu _) ⟨wr.heap.size, 0, none⟩ 1 1 [.int .u8 ((markOf k (lk + q) : Nat) : Int)] rfl rfl (cell_one_new _ _ _) (by simp [Value.oneCell']) (by omega) (by unfold maxLen; omega) (by omega) ?_); intro v3 w3 hown3 hgrow3))
                  have HO3 := hide hown3
                  have hgb : Below wr.heap.size wr w3 := ((Below.refl _ wr).alloc (Nat.le_refl _) _).grown hgrow3 (by simp) (fun j e => by cases e)
                  have HB3 := hide hgb
                  clear hown3 hgrow3 hgb
                  go_wp2
                  go_roundw
                  case rel =>
                    refine ⟨q + 1, by omega, by go_num, .inr ⟨by omega, ?_⟩, fun j hj => (HO2.out j hj).of_block (HB3.out.block _ (HO2.out j hj).lt), HB2.out.trans (Gr.of_below HB3.out) (fun i h => .inl h)⟩
                    have h := ownsRow_base (base' := wo.heap.size) HO3.out (by simp; omega)
                    rw [← Nat.add_assoc, marksOf_succ]
                    simpa [B8] using h
                  case measure => simp [intOf]; omega
              · have HG := hide hgo
                obtain ⟨ga, gc, rfl⟩ := owns_cut hgo (by omega)
                clear hgo
                go_wp2_with (first | (go_at_call 31; refine (markT_sum k lk q _ (by omega) (by omega)).mono ?_; rintro e w' ⟨rfl, hw'⟩; replace hw' := hw'.symm; subst hw') | (at_builtin; refine wpList_append_own _ rfl _ _ 33 rfl wo.heap.size 5 i0 (.int .u8 0) 1 1 Try.underlying33 hi hz0 hz1 hz2 rfl (by omega) _ _ _ rfl (HG.out.alloc _) ⟨wr.heap.size, 0, none⟩ 1 1 [.int .u8 ((markOf k (lk + q) : Nat) : Int)] rfl rfl (cell_one_new _ _ _) (by simp [Value.oneCell']) (by unfold maxLen; omega) (by omega) (by simp; omega) ?_; intro v3 w3 hown3 hgrow3 _))
                have HO3 := hide hown3
                have hgb : Below wo.heap.size wr w3 := ((Below.refl _ wr).mono hsz2 |>.alloc (by omega) _).grown hgrow3 (by simp; omega) (fun j e => (HG.out.lt j e).1)
                have HB3 := hide hgb
                clear hown3 hgrow3 hgb
                go_wp2
                go_roundw
                case rel =>
                  refine ⟨q + 1, by omega, by go_num, .inr ⟨by omega, ?_⟩, fun j hj => (HO2.out j hj).of_block (HB3.out.block _ (Nat.lt_of_lt_of_le (HGw.out j hj) hsz)), ?_⟩
                  · have h := HO3.out
                    rw [← Nat.add_assoc, marksOf_succ]
                    simpa [B8] using h
                  · exact ⟨HB3.out.os.trans HB2.out.1, HB3.out.tape.trans HB2.out.2.1, HB3.out.output.trans HB2.out.2.2.1, Nat.le_trans hsz2 HB3.out.size, fun j hj hx => (HB3.out.block j hj).trans (HB2.out.block hj hx)⟩
                case measure => simp [intOf]; omega
            · have hq7 : q = 70 := by omega
              have hqi : (70 : Int) ≤ (q : Int) := by omega
              have hg2 := (hg.resolve_left (fun h => by omega)).2
              obtain ⟨g3, c3, cur3, fr3, rfl, hg3, hcu3, hseg3⟩ := own_seg hg2 (by omega) (marksOf_lt k (lk + q)) (marksOf_length _ _)
              have HQ7 := hide hq7
              have hov := own_gr1 HV.out HB2.out hgw
              have HOC := hide hov
              have hT2 := (HT.out.keep (fun g cur fr h1 h2 => HB2.out.block (lt_of_heap h2) (by omega))).snoc c3 (Nat.le_trans hsz hg3) hcu3 hseg3 (by rw [marksOf_length]; unfold maxLen; omega)
              rw [marksOf_length] at hT2
              have HT2 := hide hT2
              clear hg hg2 hq7 hq70 hov hT2 hcu3 hseg3
              have hcsn := HCS.out
              go_wp2_with (at_builtin; refine wpList_append_own _ rfl _ _ 42 rfl w.heap.size 33 i1 (.slice none 0 0) 1 24 Try.underlying42 hj hy0 hy1 hy2 rfl (by omega) (.slice va cs.length vc) _ _ rfl (HOC.out.alloc _) ⟨wr.heap.size, 0, none⟩ 1 1 [.slice (some ⟨g3, 0, none⟩) (lk + q) c3] rfl rfl (cell_one_new _ _ _) (by simp [Value.oneCell']) (by unfold maxLen; omega) (by omega) (by simp; omega) ?_; intro v3 w3 hown3 hgrow3 _)
              have hA : Below wr.heap.size wr (wr.alloc (.cells #[.slice (some ⟨g3, 0, none⟩) (lk + q) c3] 33)) := (Below.refl _ _).alloc (Nat.le_refl _) _
              have hkeep : ∀ j, j < w.heap.size → w3.heap[j]? = wr.heap[j]? := fun j hj => (grown_keep (HOC.out.alloc _) hgrow3 hj (by have := hA.size; omega)).trans (hA.block j (by omega))
              have HKEEP := hide hkeep
              have HT3 : Hid (TiesO w3 w.heap.size (cs ++ [.slice (some ⟨g3, 0, none⟩) (lk + q) c3]) ((List.range k).map (fun j => marksOf j (L j + 70)) ++ [marksOf k (lk + q)])) := HT2.out.keep (fun g cur fr h1 h2 => by
                refine (hgrow3.block g (by have := hA.size; have := lt_of_heap h2; omega) (fun e => ?_)).trans (hA.block g (lt_of_heap h2))
                rcases (HOC.out.alloc (.cells #[.slice (some ⟨g3, 0, none⟩) (lk + q) c3] 33)).2 with ⟨e2, _⟩ | ⟨g5, cap5, cur5, e2, _, hh5, _⟩
                · rw [e2] at e; simp [Value.ownBlock] at e
                · rw [e2] at e
                  obtain rfl : g = g5 := by simpa [Value.ownBlock] using e
                  rw [hA.block g (lt_of_heap h2), h2] at hh5
                  simp at hh5)
              have HB3 : Hid (Gr X w w3) := grown_gr (HBX.out.trans (Gr.of_below hA : Gr X wr _) (fun i h => .inl h)) (HOC.out.alloc _) hgrow3
              have HO3 := hide hown3
              clear hA hkeep hown3 hgrow3
              go_wp2
              go_roundw
              case rel =>
                refine ⟨k + 1, cs ++ [.slice (some ⟨g3, 0, none⟩) (lk + q) c3], by omega, by go_num, by simp [HCS.out], by simpa using HO3.out, ?_, fun j hj => (HO2.out j hj).of_block (HKEEP.out _ (HGw.out j hj)), HB3.out⟩
                have h := HT3.out
                rw [List.range_succ, List.map_append, List.map_singleton, HEQ.out.1]
                rw [HQ7.out] at h ⊢
                exact h
              case measure => simp [intOf]; omega
        · have hki : (n : Int) ≤ (k : Int) := by omega
          have hkn2 : k = n := by omega
          subst hkn2
          obtain ⟨a2, c2, hv2, hs2⟩ := slr_of_owns HV.out HT.out.ties
          rw [List.length_map, List.length_range] at hv2
          rw [hv2]
          clear hv2
          have HS2 := hide hs2
          clear hs2 HT HV HCS
          go_wp2
          generalize hwo : wr = w2 at *
          clear hwo
          go_loopw [9] (fun i wr => ∃ j m : Nat, j ≤ k ∧ i = .int .i64 j ∧ wr = w2.drewN m) (fun i _ => k - (intOf i).toNat)
          case atStart => exact ⟨0, 0, by omega, rfl, rfl⟩
          case round =>
            obtain ⟨j, m, hj2, rfl, hwr⟩ := hrel
            by_cases hjk : j < k
            · have hji : (j : Int) < (k : Int) := by omega
              obtain ⟨b3, o3, rfl, hb3, hs3⟩ : ∃ b off, a2 = some ⟨b, off, none⟩ ∧ b < w2.heap.size ∧ ∀ (i : Nat) (r : List Nat), ((List.range k).map fun j => marksOf j (L j + 70))[i]? = some r → ∃ ai cap, w2.cell? ⟨b, off + i, none⟩ = some (.slice ai r.length cap) ∧ Sl w2 ai r ∧ r.length ≤ maxLen := by
                rcases HS2.out with h | h
                · have := congrArg List.length h; simp at this; omega
                · exact h
              obtain ⟨a4, c4, hc4, hs4, _⟩ := hs3 j (marksOf j (L j + 70)) (by rw [List.getElem?_map, List.getElem?_range hjk]; rfl)
              rw [marksOf_length] at hc4
              have hcl := HCB.out w2 HB.out j hjk
              have hLj := HLN.out j hjk
              have HLI := hide (HO.out j hjk)
              generalize hLe : L j = lj at hcl hLj hc4 hs4 HLI
              clear hLe
              obtain ⟨b5, o5, rfl, hb5, hs5⟩ : ∃ b off, a4 = some ⟨b, off, none⟩ ∧ b < w2.heap.size ∧ Seg w2 b off (marksOf j (lj + 70)) := by
                rcases hs4 with h | h
                · have := congrArg List.length h; rw [marksOf_length] at this; simp at this
                · exact h
              have HS5 := hide hs5
              have HCL := hide hcl
              have HC4 := hide hc4
              have HWR := hide hwr
              have hc4r : wr.cell? ⟨b3, o3 + j, none⟩ = some (.slice (some ⟨b5, o5, none⟩) (lj + 70) c4) := by rw [hwr]; exact hc4
              clear hs3 hs4 hs5 hcl hc4 hwr
              go_wp2
              go_loopw [10] (fun x wr => ∃ q m : Nat, q ≤ lj + 70 ∧ x = .int .i64 q ∧ wr = w2.drewN m) (fun x _ => lj + 70 - (intOf x).toNat)
              case atStart => exact ⟨0, m, by omega, rfl, HWR.out⟩
              case round =>
                clear hc4r HWR
                obtain ⟨q, m, hq, rfl, hwr⟩ := hrel
                have hc4r : wr.cell? ⟨b3, o3 + j, none⟩ = some (.slice (some ⟨b5, o5, none⟩) (lj + 70) c4) := by rw [hwr]; exact HC4.out
                have hclr : wr.cell? ⟨b, off + j, none⟩ = some (.slice (some ⟨G j, O, none⟩) lj (K j)) := by rw [hwr]; exact HCL.out
                have HWR := hide hwr
                by_cases hql : q < lj + 70
                · have hqi : (q : Int) < (lj : Int) + 70 := by omega
                  have hcm : wr.cell? ⟨b5, o5 + q, none⟩ = some (.int .u8 ((markOf j q : Nat) : Int)) := by rw [hwr]; exact (HS5.out q _ (marksOf_get hql)).1
                  have hne : (((markOf j q : Nat) : Int) != ((markOf j q : Nat) : Int)) = false := by simp
                  have hqm : q ≤ 1000000000000000 := by omega
                  have hjm : j ≤ 1000000000000 := by omega
                  by_cases hq2 : q < lj
                  · have hcg : wr.cell? ⟨G j, O + q, none⟩ = some (.int .u8 ((markOf j q : Nat) : Int)) := by rw [hwr]; exact HLI.out.cell hq2
                    have hq3 : (q : Int) < (lj : Int) := by omega
                    have MK := hide (fun W => mark_any j q W hjm hqm)
                    clear hwr
                    generalize markOf j q = mk at *
                    generalize G j = gj at *
                    generalize K j = kj at *
                    go_wp2
                    go_quiet ((go_at_call 31; refine Calls.quiet_of_same (unhide MK _)))
                    go_wp2
                    go_roundw
                    case rel => exact ⟨q + 1, m + nq, by omega, by go_num, by rw [HWR.out, World.drewN_drewN]⟩
                    case measure => simp [intOf]; omega
                  · have hq3 : decide ((q : Int) < (lj : Int)) = false := decide_eq_false (by omega)
                    have MK := hide (fun W => mark_any j q W hjm hqm)
                    clear hwr
                    generalize markOf j q = mk at *
                    generalize G j = gj at *
                    generalize K j = kj at *
                    go_wp2
                    go_quiet ((go_at_call 31; refine Calls.quiet_of_same (unhide MK _)))
                    go_wp2
                    go_roundw
                    case rel => exact ⟨q + 1, m + nq, by omega, by go_num, by rw [HWR.out, World.drewN_drewN]⟩
                    case measure => simp [intOf]; omega
                · have hqi : (lj : Int) + 70 ≤ (q : Int) := by omega
                  clear hwr
                  go_wp2
                  go_roundw
                  case rel => exact ⟨j + 1, m, by omega, by go_num, HWR.out⟩
                  case measure => simp [intOf]; omega
            · have hji : (k : Int) ≤ (j : Int) := by omega
              have HWR := hide hwr
              clear hwr
              go_wp2
              go_ret
              refine ⟨rfl, ?_⟩
              rw [HWR.out]
              exact HB.out.drewG m
end Go.Proofs.Ytafmpdljljmddaa
