/- The statements' extents(). -/
import Derived.Test.YtadmekikdaocoaaOpenM
import Derived.Deep.Slices
import Derived.Test.YtadmekikdaocoaaPNew
import Derived.Test.YtadmekikdaocoaaUgEM
import Derived.Test.YtadmekikdaocoaaPSet
import Derived.Test.YtadmekikdaocoaaQTwoM
import Derived.Test.YtadmekikdaocoaaPFrm
import Derived.Laws.AppendOwnNone
namespace Go.Proofs.Ytadmekikdaocoaa
open Go.ChangeShapes Go.WideShapes Go.ChangeAt Go.RowKit
set_option linter.unusedVariables false

theorem gatherQ {α : Type} {Q : Nat → α → Prop} : ∀ n, (∀ i, i < n → ∃ x, Q i x) → ∃ xs : List α, xs.length = n ∧ ∀ i x, xs[i]? = some x → Q i x := by
  intro n
  induction n with
  | zero => intro _; exact ⟨[], rfl, fun i x h => by simp at h⟩
  | succ n ih =>
    intro h
    obtain ⟨xs, hl, hq⟩ := ih (fun i hi => h i (by omega))
    obtain ⟨y, hy⟩ := h n (by omega)
    refine ⟨xs ++ [y], by rw [List.length_append, hl]; rfl, fun i x hx => ?_⟩
    by_cases hi : i < xs.length
    · rw [List.getElem?_append_left hi] at hx
      exact hq i x hx
    · rw [List.getElem?_append_right (by omega)] at hx
      have hlt := (List.getElem?_eq_some_iff.1 hx).1
      simp at hlt
      have e : i - xs.length = 0 := by omega
      rw [e] at hx
      simp at hx
      subst hx
      have : i = n := by omega
      subst this
      exact hy
/-- What a row of so many cells an element holds. -/
def RowW {α : Type} (sz : Nat) (vals : α → List Value) (W : World) (a : Option Addr) (xs : List α) : Prop :=
  xs = [] ∨ ∃ b off, a = some ⟨b, off, none⟩ ∧ b < W.heap.size ∧ ∀ i x, xs[i]? = some x → ∀ j v, (vals x)[j]? = some v → W.cell? ⟨b, off + i * sz + j, none⟩ = some v
theorem RowW.below {α : Type} {sz : Nat} {vals : α → List Value} {W W' : World} {a : Option Addr} {xs : List α} (h : RowW sz vals W a xs) (hB : Below W.heap.size W W') : RowW sz vals W' a xs := by
  rcases h with h | ⟨b, off, e, hb, hc⟩
  · exact .inl h
  · exact .inr ⟨b, off, e, Nat.lt_of_lt_of_le hb hB.size, fun i x hx j v hv => (hB.cell hb).trans (hc i x hx j v hv)⟩
theorem RowW.at {α : Type} {sz : Nat} {vals : α → List Value} {W : World} {a : Option Addr} {xs : List α} (h : RowW sz vals W a xs) {i : Nat} {x : α} (hx : xs[i]? = some x) : ∃ b off, a = some ⟨b, off, none⟩ ∧ b < W.heap.size ∧ ∀ j v, (vals x)[j]? = some v → W.cell? ⟨b, off + i * sz + j, none⟩ = some v := by
  rcases h with h | ⟨b, off, e, hb, hc⟩
  · rw [h] at hx; simp at hx
  · exact ⟨b, off, e, hb, hc i x hx⟩
theorem bulk_appR {H : Type} (l m : List (DataW H)) : Rows.uptoBulkAll (l ++ m) = Rows.uptoBulkAll l + Rows.uptoBulkAll m := by
  induction l with
  | nil => simp [Rows.uptoBulkAll]
  | cons d r ih => simp only [List.cons_append, Rows.uptoBulkAll, ih]; omega
theorem bulk_sumR {H α : Type} (f : α → Nat) (D : Nat → DataW H) (xs : List α) (h : ∀ i x, xs[i]? = some x → f x ≤ Rows.uptoBulk (D i)) : (xs.map f).sum ≤ Rows.uptoBulkAll ((List.range xs.length).map D) := by
  have key : ∀ n, n ≤ xs.length → ((xs.take n).map f).sum ≤ Rows.uptoBulkAll ((List.range n).map D) := by
    intro n
    induction n with
    | zero => intro _; simp
    | succ n ih =>
      intro hn
      have h1 := ih (by omega)
      have h2 := h n _ (List.getElem?_eq_getElem (by omega))
      rw [List.take_succ_eq_append_getElem (by omega), List.map_append, List.sum_append, List.range_succ, List.map_append, bulk_appR]
      simp only [List.map_cons, List.map_nil, List.sum_cons, List.sum_nil, Rows.uptoBulkAll]
      omega
  have := key xs.length (Nat.le_refl _)
  rw [List.take_length] at this
  exact this
set_option maxRecDepth 100000 in
theorem open_row {α H : Type} {enc : TypeId × Value → H} {W : World} {t e : TypeId} {sz fuel : Nat} (vals : α → List Value) (Q : α → DataW H → Prop) (f : α → Nat) (ht : Try.prog.underlying t = some (.slice e)) (hc : Try.prog.cellsOf e = sz) (hsz : 0 < sz) (hvl : ∀ x, (vals x).length = sz)
    (hel : ∀ fuel cs x, DataW.trod enc Try.prog W 0 (fun _ => true) true fuel e cs = some x → ∃ a, cs = vals a ∧ Q a x.1 ∧ f a ≤ Rows.uptoBulk x.1) {a : Option Addr} {len cap : Nat} {x : DataW H × List MemPlace} (h : DataW.trod enc Try.prog W 0 (fun _ => true) true fuel t [.slice a len cap] = some x) :
    ∃ xs : List α, len = xs.length ∧ RowW sz vals W a xs ∧ (∀ x ∈ xs, ∃ d, Q x d) ∧ (xs.map f).sum + 1 ≤ Rows.uptoBulk x.1 ∧ len ≤ cap ∧ cap ≤ maxLen ∧ (a = none → xs = [] ∧ cap = 0) := by
  rcases Go.Deep.open_slice ht h with ⟨hcs, hx0⟩ | ⟨ad, l, c, m, n, D, Pl, hcs, _, hl, hm, hmm, hx, hele⟩
  · simp at hcs
    obtain ⟨rfl, rfl, rfl⟩ := hcs
    subst hx0
    exact ⟨[], rfl, .inl rfl, by simp, by simp [Rows.uptoBulk], Nat.le_refl _, Nat.zero_le _, fun _ => ⟨rfl, rfl⟩⟩
  · simp at hcs
    obtain ⟨rfl, rfl, rfl⟩ := hcs
    have hlm : len ≤ m := by rw [hmm]; simp; exact hl
    rw [hc] at hele
    obtain ⟨xs, hxl, hxq⟩ := gatherQ (Q := fun i x => Q x (D i) ∧ f x ≤ Rows.uptoBulk (D i) ∧ W.cells? 0 (ad.add (i * sz)) sz = some (vals x)) len (fun i hi => by
      obtain ⟨cs', h1, h2⟩ := hele i (by omega)
      obtain ⟨y, rfl, hq, hk⟩ := hel _ _ _ h2
      exact ⟨y, hq, hk, h1⟩)
    refine ⟨xs, hxl.symm, ?_, ?_, ?_, hl, hm, fun h => by cases h⟩
    · by_cases h0 : len = 0
      · exact .inl (List.eq_nil_of_length_eq_zero (by omega))
      · obtain ⟨b, off, spot⟩ := ad
        obtain ⟨x0, hx0⟩ : ∃ x, xs[0]? = some x := ⟨_, List.getElem?_eq_getElem (by omega)⟩
        obtain ⟨v0, hv0⟩ : ∃ v, (vals x0)[0]? = some v := ⟨_, List.getElem?_eq_getElem (by rw [hvl]; exact hsz)⟩
        have hc0 : W.cell? ⟨b, off, spot⟩ = some v0 := by
          obtain ⟨_, _, hcc⟩ := World.cells?_some (hxq 0 x0 hx0).2.2
          have h1 := hcc 0 (by omega)
          have e : ((⟨b, off, spot⟩ : Addr).add (0 * sz)).add 0 = ⟨b, off, spot⟩ := by simp [Addr.add]
          rw [e, hv0] at h1
          exact h1
        have hspot : spot = none := by simpa using World.cell?_spot hc0
        subst hspot
        refine .inr ⟨b, off, rfl, World.block_lt_of_cell? _ _ hc0, fun i x hx j v hv => ?_⟩
        have hj : j < sz := by have := (List.getElem?_eq_some_iff.1 hv).1; rw [hvl] at this; exact this
        obtain ⟨_, _, hcc⟩ := World.cells?_some (hxq i x hx).2.2
        have h1 := hcc j hj
        rw [hv] at h1
        have e1 : (⟨b, off, none⟩ : Addr).add (i * sz) = ⟨b, off + i * sz, none⟩ := by simp [Addr.add]
        have e2 : (⟨b, off + i * sz, none⟩ : Addr).add j = ⟨b, off + i * sz + j, none⟩ := by simp [Addr.add]
        rw [e1, e2] at h1
        exact h1
    · intro y hy
      obtain ⟨i, hi⟩ := List.getElem?_of_mem hy
      exact ⟨_, (hxq i y hi).1⟩
    · have h1 := bulk_sumR f D xs (fun i x hi => (hxq i x hi).2.1)
      rw [hx, ← hxl]
      simp only [Rows.uptoBulk]
      omega
end Go.Proofs.Ytadmekikdaocoaa
namespace Go.Proofs.Ytadmekikdaocoaa
open Go.RowKit Go.Shelf
set_option linter.unusedVariables false

/-- A list of ints. -/
def IntsP (W : World) (a : Option Addr) (zs : List Int) : Prop := (∀ z ∈ zs, -9223372036854775808 ≤ z ∧ z ≤ 9223372036854775807) ∧ (zs = [] ∨ ∃ b off, a = some ⟨b, off, none⟩ ∧ b < W.heap.size ∧ ∀ (i : Nat) (z : Int), zs[i]? = some z → W.cell? ⟨b, off + i, none⟩ = some (.int .i64 z))
theorem IntsP.below {W W' : World} {a : Option Addr} {zs : List Int} (h : IntsP W a zs) (hB : Below W.heap.size W W') : IntsP W' a zs := by
  refine ⟨h.1, ?_⟩
  rcases h.2 with h | ⟨b, off, e, hb, hc⟩
  · exact .inl h
  · exact .inr ⟨b, off, e, Nat.lt_of_lt_of_le hb hB.size, fun i z hz => (hB.cell hb).trans (hc i z hz)⟩
theorem IntsP.at {W : World} {a : Option Addr} {zs : List Int} (h : IntsP W a zs) {i : Nat} {z : Int} (hz : zs[i]? = some z) : ∃ b off, a = some ⟨b, off, none⟩ ∧ W.cell? ⟨b, off + i, none⟩ = some (.int .i64 z) ∧ -9223372036854775808 ≤ z ∧ z ≤ 9223372036854775807 := by
  rcases h.2 with h2 | ⟨b, off, e, hb, hc⟩
  · rw [h2] at hz; simp at hz
  · have h3 := h.1 z (List.mem_of_getElem? hz)
    exact ⟨b, off, e, hc i z hz, h3.1, h3.2⟩
/-- No number below 0. -/
def nonneg (zs : List Int) : Bool := zs.all (fun z => decide (0 ≤ z))
theorem nonneg_no {zs : List Int} {i : Nat} {z : Int} (hz : zs[i]? = some z) (h : z < 0) : nonneg zs = false := by
  unfold nonneg
  rw [List.all_eq_false]
  exact ⟨z, List.mem_of_getElem? hz, by simpa using h⟩
theorem nonneg_yes {zs : List Int} (h : ∀ (i : Nat) (z : Int), i < zs.length → zs[i]? = some z → 0 ≤ z) : nonneg zs = true := by
  unfold nonneg
  rw [List.all_eq_true]
  intro z hz
  obtain ⟨i, hi⟩ := List.getElem?_of_mem hz
  simpa using h i z (List.getElem?_eq_some_iff.1 hi).1 hi
set_option maxHeartbeats 400000 in
theorem pmayI {w : World} {a : Option Addr} {zs : List Int} (cap m : Nat) (h : IntsP w a zs) (hm : zs.length = m) (hl : m ≤ 17592186043904) : Calls Try.prog 39 #[.slice a m cap] w fun e w' => e = .returned (.bool (nonneg zs)) ∧ w' = w := by
  have H := hide h
  have HM := hide hm
  obtain ⟨g5, hg5⟩ : ∃ g, nonneg zs = g := ⟨_, rfl⟩
  rw [hg5]
  have HG := hide hg5
  clear h hm hg5
  go_enter Try.func39, Try.ntmps39
  go_wp2
  go_loopw [7] (fun iv wr => ∃ j : Nat, iv = .int .i64 (j : Int) ∧ j ≤ m ∧ wr = w ∧ ∀ (i : Nat) (z : Int), i < j → zs[i]? = some z → 0 ≤ z) (fun iv _ => (m - (intOf iv).toNat))
  case atStart => exact ⟨0, rfl, Nat.zero_le _, rfl, fun i z h => by omega⟩
  case round =>
    obtain ⟨j, rfl, hj, rfl, hall⟩ := hrel
    have HALL := hide hall
    clear hall
    by_cases hlt : j < m
    · obtain ⟨k, hk⟩ : ∃ k, zs[j]? = some k := ⟨_, List.getElem?_eq_getElem (by rw [HM.out]; exact hlt)⟩
      obtain ⟨g, o, rfl, hc, hkb⟩ := H.out.at hk
      have l0 := index_int g o j m cap hlt wr
      have jI : (j : Int) < (m : Int) := by omega
      have HK := hide hk
      clear hk
      by_cases kI : k < 0
      · have hgf : g5 = false := HG.out.symm.trans (nonneg_no HK.out kI)
        subst hgf
        go_wp2
        go_ret
        exact ⟨rfl, rfl⟩
      · go_wp2
        go_roundw
        case rel => exact ⟨j + 1, int_congrP (by omega), by omega, trivial, fun i z hi hz => by
          by_cases e : i = j
          · subst e; rw [HK.out] at hz; cases hz; omega
          · exact HALL.out i z (by omega) hz⟩
        case measure => simp [intOf]; omega
    · have jI : ¬ (j : Int) < (m : Int) := by omega
      have hgt : g5 = true := HG.out.symm.trans (nonneg_yes (fun i z hi hz => HALL.out i z (by have := HM.out; omega) hz))
      subst hgt
      go_wp2
      go_ret
      exact ⟨rfl, rfl⟩
def IZ (z : Int) : Value := .int .i64 z
theorem cellOneK (W : World) (x : Value) (t : TypeId) : ∀ (j : Nat) u, [x][j]? = some u → (W.alloc (.cells #[x] t)).cell? ((⟨W.heap.size, 0, none⟩ : Addr).add j) = some u := fun j u hu => by
  have h := heap_alloc_new W (.cells #[x] t)
  match j, hu with
  | 0, hu =>
    cases hu
    have e : (⟨W.heap.size, 0, none⟩ : Addr).add 0 = ⟨W.heap.size, 0, none⟩ := by simp [Addr.add]
    rw [e, cell8 h 0]
    rfl
  | n + 1, hu => simp at hu
/-- A list of ints, in memory of its own. -/
def OwnI (W : World) (B : Nat) (v : Value) (zs : List Int) : Prop := W.ownsRow B 3 1 v zs.length (zs.map IZ)
/-- Such a list, where no number is below 0, is one of what lines keep. -/
theorem OwnI.slN {W : World} {B m : Nat} {ka : Option Addr} {kc : Nat} {zs : List Int} (h : OwnI W B (.slice ka m kc) zs) (hm : zs.length = m) (hb : ∀ z ∈ zs, -9223372036854775808 ≤ z ∧ z ≤ 9223372036854775807) (hn : nonneg zs = true) : SlN W ka (zs.map Int.toNat) := by
  unfold nonneg at hn
  rw [List.all_eq_true] at hn
  refine ⟨fun k hk => ?_, ?_⟩
  · obtain ⟨z, hz, rfl⟩ := List.mem_map.1 hk
    have := hb z hz
    omega
  · unfold OwnI at h
    rw [hm] at h
    rcases h.2 with ⟨e, h0⟩ | ⟨g, cap, cur, e, h1, h2, h3, _, h4, h5⟩
    · have : zs = [] := List.eq_nil_of_length_eq_zero (by omega)
      cases e
      subst this
      exact .inl ⟨rfl, rfl⟩
    · cases e
      refine .inr ⟨g, 0, cur, _, rfl, h2, fun j k hj => ?_⟩
      rw [List.getElem?_map] at hj
      obtain ⟨z, hz, rfl⟩ := Option.map_eq_some_iff.1 hj
      have hlt : j < zs.length := (List.getElem?_eq_some_iff.1 hz).1
      have h6 : (cur.toList.take (m * 1))[j]? = some (IZ z) := by rw [h5, List.getElem?_map, hz]; rfl
      rw [List.getElem?_take, if_pos (by omega)] at h6
      rw [Nat.zero_add, cell8 h2]
      have h0 : 0 ≤ z := by simpa using hn z (List.mem_of_getElem? hz)
      rw [show ((z.toNat : Nat) : Int) = z by omega]
      simpa [IZ] using h6
theorem OwnI.ints {W : World} {B m : Nat} {ka : Option Addr} {kc : Nat} {zs : List Int} (h : OwnI W B (.slice ka m kc) zs) (hm : zs.length = m) (hb : ∀ z ∈ zs, -9223372036854775808 ≤ z ∧ z ≤ 9223372036854775807) : IntsP W ka zs := by
  refine ⟨hb, ?_⟩
  unfold OwnI at h
  rw [hm] at h
  rcases h.2 with ⟨e, h0⟩ | ⟨g, cap, cur, e, h1, h2, h3, _, h4, h5⟩
  · exact .inl (List.eq_nil_of_length_eq_zero (by omega))
  · cases e
    refine .inr ⟨g, 0, rfl, lt_of_heap h2, fun j z hj => ?_⟩
    have hlt : j < zs.length := (List.getElem?_eq_some_iff.1 hj).1
    have h6 : (cur.toList.take (m * 1))[j]? = some (IZ z) := by rw [h5, List.getElem?_map, hj]; rfl
    rw [List.getElem?_take, if_pos (by omega)] at h6
    rw [Nat.zero_add, cell8 h2]
    simpa [IZ] using h6
theorem pcrash_no {w : World} {b : Nat} {L : Lay} {σ : St} {a : Option Addr} {zs : List Int} (cap m : Nat) (hd : DevL w b L σ) (ho : σ.off = false) (h : IntsP w a zs) (hm : zs.length = m) (hl : m ≤ 17592186043904) (hn : nonneg zs = false) : Calls Try.prog 45 #[.pointer (some ⟨b, 0, none⟩), .slice a m cap] w fun e w' => e = .returned (.int .i64 2) ∧ w' = w := by
  have ks := pstate_any hd
  rw [ho] at ks
  simp only [Bool.false_eq_true, if_false] at ks
  have km := pmayI (w := w) cap m h hm hl
  rw [hn] at km
  have KS := hide ks
  have KM := hide km
  clear ks km hd ho h hm hl hn
  go_enter Try.func45, Try.ntmps45
  go_wp2_with (first | (go_at_call 38; refine (KS.out).mono ?_; rintro e w' ⟨rfl, hw⟩; obtain rfl := hw.symm) | (go_at_call 39; refine (KM.out).mono ?_; rintro e w' ⟨rfl, hw⟩; obtain rfl := hw.symm))
  go_ret
  exact ⟨rfl, rfl⟩
end Go.Proofs.Ytadmekikdaocoaa
namespace Go.Proofs.Ytadmekikdaocoaa
open Go.RowKit Go.Shelf
set_option linter.unusedVariables false

theorem add_zero (ad : Addr) : ad.add 0 = ad := by
  obtain ⟨b, o, sp⟩ := ad
  cases sp <;> simp [Addr.add]
theorem cut_intsG (ad : Addr) (m nk cap : Nat) (hm : m ≤ nk) (hc : nk ≤ cap) (w : World) : (Instr.sliceAt 51 (.slice (some ad) nk cap) none (some (.int .i64 (m : Int))) none).run Try.prog w = .ok (.slice (some ad) m cap) w := by
  obtain ⟨i, h1, _⟩ := infoInt2
  have hc2 : m ≤ cap := by omega
  simp [Instr.sliceAt, Instr.slice, Sem.run_bind, run_underlying Try.underlying51, Instr.sliceBounds, Instr.sliceBound, asIntOf, sizeOf, typeInfo, h1, add_zero, hc2]
set_option maxRecDepth 100000 in
/-- A list of ints of its own. -/
theorem pcloneG (ad : Addr) (m cp : Nat) (kp : List Nat) (w : World) (hm : kp.length = m) (hn : ∀ j k : Nat, kp[j]? = some k → w.cell? (ad.add j) = some (.int .i64 (k : Int))) (hms : m ≤ 65536) :
    Calls Try.prog 40 #[.slice (some ad) m cp] w fun e w' => ∃ gn cn, e = .returned (.slice (some ⟨gn, 0, none⟩) m cn) ∧ w.heap.size ≤ gn ∧ (∃ c, w'.heap[gn]? = some (.cells c 3 (0, 0))) ∧ (∀ j k : Nat, kp[j]? = some k → w'.cell? ⟨gn, j, none⟩ = some (.int .i64 (k : Int))) ∧ Below w.heap.size w w' := by
  obtain ⟨it, hit, hz, h65, h72⟩ := infoInt2
  obtain ⟨news, hnews⟩ : ∃ news, news = kp.map (fun k : Nat => Value.int .i64 (k : Int)) := ⟨_, rfl⟩
  have hl : news.length = m * 1 := by rw [hnews, List.length_map, hm, Nat.mul_one]
  have hA : Below w.heap.size w (w.alloc (.cells #[] 3)) := (Below.refl _ w).alloc (Nat.le_refl _) _
  have ho : (w.alloc (.cells #[] 3)).ownsRow 0 3 1 (.slice (some ⟨w.heap.size, 0, none⟩) 0 0) 0 [] := ⟨rfl, .inr ⟨w.heap.size, 0, #[], rfl, Nat.zero_le _, heapNew w _, Nat.le_refl _, Nat.zero_le _, rfl, rfl⟩⟩
  have hn' : ∀ j u, news[j]? = some u → (w.alloc (.cells #[] 3)).cell? (ad.add j) = some u := fun j u hu => by
    rw [hnews, List.getElem?_map] at hu
    obtain ⟨k, hk, rfl⟩ := Option.map_eq_some_iff.1 hu
    exact (hA.cell (World.block_lt_of_cell? _ _ (hn j k hk))).trans (hn j k hk)
  have h1 : ∀ u ∈ news, u.oneCell' = true := fun u hu => by
    rw [hnews] at hu
    obtain ⟨k, _, rfl⟩ := List.mem_map.1 hu
    rfl
  have hbs : (Instr.buildSlice 51 0 #[]).run Try.prog w = .ok (.slice (some ⟨w.heap.size, 0, none⟩) 0 0) (w.alloc (.cells #[] 3)) := by
    simp [Instr.buildSlice, run_underlying Try.underlying51, sizeOf, typeInfo, hit, Instr.fill, newRow]
    rw [show Array.map (fun (_ : Nat) => (default : Value)) (Array.range 0) = #[] from Array.eq_empty_of_size_eq_zero (by simp)]
  have hq : (binOp .eql 51 (.slice (some ad) m cp) (.slice none 0 0)).run Try.prog w = .ok (.bool false) w := by
    have h : ∀ d : Nat, (Op.equalIn (d + 1) 51 (.slice (some ad) m cp) (.slice none 0 0)).run Try.prog w = .ok false w := fun d => by
      simp [Op.equalIn, run_underlying Try.underlying51]
    simp only [binOp]
    simp [Op.equal, Op.maxDepth, h 9999]
  have HA := hide hA
  have HO := hide ho
  have HN := hide hn'
  have HM := hide hm
  have HNW := hide hnews
  clear hA ho hn hn' hm hnews
  go_enter Try.func40, Try.ntmps40
  go_wp2_with (at_builtin; refine wpList_append_own_at _ rfl _ _ 51 rfl 0 3 it (.int .i64 0) 1 8 Try.underlying51 hit hz h65 h72 (by rfl) (by decide) (.slice (some ⟨w.heap.size, 0, none⟩) 0 0) 0 [] rfl HO.out ad m cp news rfl hl HN.out h1 (by unfold maxLen; omega) (by omega) (Nat.zero_le _) ?_; intro v1 x1 ho2 hg2 hnl hat; go_frame)
  go_ret
  rw [Nat.zero_add, List.nil_append] at ho2
  rcases ho2.2 with ⟨rfl, h0⟩ | ⟨gn, cn, cur, rfl, q1, q2, q3, q4, q5, q6⟩
  · exact absurd (hnl.1 rfl).1 (by simp)
  · have hgn : w.heap.size ≤ gn := by rcases hat with e | e <;> cases e <;> simp
    refine ⟨gn, cn, rfl, hgn, ⟨cur, q2⟩, fun j k hj => ?_, ?_⟩
    · rw [cell8 q2]
      have h9 : (cur.toList.take (m * 1))[j]? = some (.int .i64 (k : Int)) := by rw [q6, HNW.out, List.getElem?_map, hj]; rfl
      have hjm : j < m := by have h8 := (List.getElem?_eq_some_iff.1 hj).1; have h7 := HM.out; omega
      rw [List.getElem?_take, if_pos (by omega)] at h9
      simpa using h9
    · exact ⟨hg2.os.trans HA.out.os, hg2.tape.trans HA.out.tape, hg2.output.trans HA.out.output, Nat.le_trans HA.out.size hg2.size, fun k hk => (hg2.block k (Nat.lt_of_lt_of_le hk HA.out.size) (fun e => by simp [Value.ownBlock] at e; omega)).trans (HA.out.block k hk)⟩
section
variable {w : World} {b : Nat} {L : Lay} {σ : St}
set_option maxRecDepth 100000 in
set_option maxHeartbeats 400000 in
/-- Arm of one loss. -/
theorem parm_gen {af ga m nk ck : Nat} {ad : Addr} {kp : List Nat} {zs : List Int} (h : DevL w b L σ) (hok : σ.Ok) (ho : σ.off = false) (harm : σ.arms = []) (haf : 1 ≤ af) (hga : w.heap[ga]? = some (.cells #[.int .i64 (af : Int), .slice (some ad) nk ck] 54 (0, 0)))
    (hkl0 : zs.length = nk) (hnk9 : nk ≤ 17592186043904) (hkt : kp = (zs.map Int.toNat).take m) (hmn : m = min nk σ.n) (hmc : nk ≤ ck) (hk0 : IntsP w (some ad) zs) (hnn : nonneg zs = true) (hav : ¬ L.av.ownBlock = some ga) :
    Calls Try.prog 14 #[.pointer (some ⟨b, 0, none⟩), .slice (some ⟨ga, 0, none⟩) 1 1] w fun e w' => e = .returned (.int .i64 0) ∧ ∃ L', DevL w' b L' { σ with arms := [(af, kp)] } ∧ (∀ k, Foot b L' { σ with arms := [(af, kp)] } k → Foot b L σ k ∨ w.heap.size ≤ k) ∧ Gr (Foot b L σ) w w' ∧ L'.N ≤ L.N := by
  have hmk : m ≤ nk := by omega
  have hkl : kp.length = m := by rw [hkt, List.length_take, List.length_map]; omega
  have hmx := hok.max
  have ks := pstate_any h
  rw [ho] at ks
  simp only [Bool.false_eq_true, if_false] at ks
  obtain ⟨ia, hia, hiz, his, hib⟩ := infoArm2
  have hav0 : w.ownsRow 0 54 2 L.av 0 [] := by
    obtain ⟨ks', hl', ho', _⟩ := h.arms
    rw [harm] at hl' ho'
    have : ks' = [] := List.eq_nil_of_length_eq_zero (by simpa using hl')
    subst this
    exact ho'
  obtain ⟨avp, avc, hava⟩ := own_slice hav0
  have hkc : ∀ j k : Nat, kp[j]? = some k → w.cell? (ad.add j) = some (.int .i64 (k : Int)) := fun j k hj => by
    rw [hkt, List.getElem?_take] at hj
    split at hj
    · rw [List.getElem?_map] at hj
      obtain ⟨z, hz, rfl⟩ := Option.map_eq_some_iff.1 hj
      obtain ⟨g, o, e, h1, _, _⟩ := hk0.at hz
      cases e
      have h2 : 0 ≤ z := by
        unfold nonneg at hnn
        have := List.all_eq_true.1 hnn z (List.mem_of_getElem? hz)
        simpa using this
      rw [Addr.add_mid, h1]
      congr 2
      omega
    · cases hj
  have km : ∀ W : World, Below w.heap.size w W → Calls Try.prog 39 #[.slice (some ad) nk ck] W fun e w' => e = .returned (.bool true) ∧ w' = W := fun W hB => by
    have h5 := pmayI (w := W) ck nk (hk0.below hB) hkl0 hnk9
    rwa [hnn] at h5
  have kc : ∀ W : World, Below w.heap.size w W → Calls Try.prog 40 #[.slice (some ad) m ck] W fun e w' => ∃ gn cn, e = .returned (.slice (some ⟨gn, 0, none⟩) m cn) ∧ W.heap.size ≤ gn ∧ (∃ c, w'.heap[gn]? = some (.cells c 3 (0, 0))) ∧ (∀ j k : Nat, kp[j]? = some k → w'.cell? ⟨gn, j, none⟩ = some (.int .i64 (k : Int))) ∧ Below W.heap.size W w' := fun W hB =>
    pcloneG ad m ck kp W hkl (fun j k hj => (hB.cell (World.block_lt_of_cell? _ _ (hkc j k hj))).trans (hkc j k hj)) (by omega)
  have fx : ∀ W : World, Below w.heap.size w W → W.cell? ⟨ga, 0, none⟩ = some (.int .i64 (af : Int)) ∧ W.cell? ⟨ga, 1, none⟩ = some (.slice (some ad) nk ck) ∧ W.cell? ⟨b, 5, none⟩ = some L.av ∧ W.cell? ⟨b, 1, none⟩ = some (.slice (some ⟨L.sb, 0, none⟩) σ.n L.cp) := fun W hB => by
    have e1 := (hB.block ga (lt_of_heap hga)).trans hga
    have e2 := (hB.block b h.lt).trans h.dev
    exact ⟨cell8 e1 0, cell8 e1 1, cell8 e2 5, cell8 e2 1⟩
  have ix := fun Y => index_arm ga 1 1 (by omega) Y
  have HD := hide h
  have HAV0 := hide hav0
  have HAVA := hide hava
  have KS := hide ks
  have KM := hide km
  have KC := hide kc
  have FX := hide fx
  have HKL := hide hkl
  have afI : ¬ (af : Int) < 1 := by omega
  have HMI := hide (show (m : Int) = min (nk : Int) (σ.n : Int) by omega)
  clear hmn hk0 hkt hnn hkl0
  clear h ks km kc fx hkl hok ho harm hkc hga hav0 hava hav
  go_enter Try.func14, Try.ntmps14
  go_wp2_with (go_at_call 38; refine (KS.out).mono ?_; rintro e w' ⟨rfl, hw⟩; obtain rfl := hw.symm)
  go_loopw [18] (fun iv wr => (iv = .int .i64 0 ∨ iv = .int .i64 1) ∧ Below w.heap.size w wr) (fun iv _ => (1 - (intOf iv).toNat))
  case atStart => exact ⟨.inl rfl, Below.refl _ _⟩
  case round =>
    obtain ⟨rfl | rfl, hB⟩ := hrel
    · obtain ⟨f0, f1, f5, f6⟩ := FX.out wr hB
      have hB1 : Below w.heap.size w (wr.alloc (.cells #[.int .i64 (af : Int), .slice (some ad) nk ck] 54)) := hB.alloc hB.size _
      have HB1 := hide hB1
      clear hB hB1
      go_wp2_with (go_at_call 39; refine (KM.out _ ?hx).mono ?_; (case hx => exact HB1.out); rintro e w' ⟨rfl, hw⟩; obtain rfl := hw.symm)
      go_roundw
      case rel => exact ⟨.inr rfl, HB1.out⟩
      case measure => simp [intOf]
    · obtain ⟨f0, f1, f5, f6⟩ := FX.out wr hB
      rw [HAVA.out] at f5
      have HB := hide hB
      clear hB
      go_wp2_with (fail)
      go_loopw [43] (fun iv wx => (iv = .int .i64 0 ∧ Below w.heap.size w wx) ∨ (iv = .int .i64 1 ∧ ∃ L', DevL wx b L' { σ with arms := [(af, kp)] } ∧ (∀ k, Foot b L' { σ with arms := [(af, kp)] } k → Foot b L σ k ∨ w.heap.size ≤ k) ∧ Gr (Foot b L σ) w wx ∧ L'.N ≤ L.N)) (fun iv _ => (1 - (intOf iv).toNat))
      case atStart => exact .inl ⟨rfl, HB.out⟩
      case round =>
        rcases hrel with ⟨rfl, hB⟩ | ⟨rfl, hF⟩
        · obtain ⟨f0, f1, f5x, f6x⟩ := FX.out wr hB
          have hB1 : Below w.heap.size w (wr.alloc (.cells #[.int .i64 (af : Int), .slice (some ad) nk ck] 54)) := hB.alloc hB.size _
          obtain ⟨_, _, g5, g6⟩ := FX.out _ hB1
          have ha1 := heapNew wr (.cells #[.int .i64 (af : Int), .slice (some ad) nk ck] 54)
          have s15 : (wr.alloc (.cells #[.int .i64 (af : Int), .slice (some ad) nk ck] 54)).drew.cell? ⟨wr.heap.size, 1, none⟩ = some (.slice (some ad) nk ck) ∧ (wr.alloc (.cells #[.int .i64 (af : Int), .slice (some ad) nk ck] 54)).drew.cell? ⟨b, 1, none⟩ = some (.slice (some ⟨L.sb, 0, none⟩) σ.n L.cp) := ⟨cell8 (w := (wr.alloc (.cells #[.int .i64 (af : Int), .slice (some ad) nk ck] 54)).drew) ha1 1, g6⟩
          have S15 := hide s15
          have HB1 := hide hB1
          have HA1 := hide ha1
          have HBW := hide hB
          clear hB hB1 ha1 s15 g5 g6 f5x f6x
          go_wp2_with (fail)
          refine wp_region_held_drew (S := fun Y => Y.cell? ⟨wr.heap.size, 1, none⟩ = some (.slice (some ad) nk ck) ∧ Y.cell? ⟨b, 1, none⟩ = some (.slice (some ⟨L.sb, 0, none⟩) σ.n L.cp)) (by kernel_rfl) S15.out (fun hS => ?_)
          refine wpAnyH_take (i := 0) (v := (.pointer (some ⟨wr.heap.size, 1, none⟩))) rfl (by kernel_rfl) (by kernel_rfl) (by kernel_rfl) (fun _ _ _ h => h) (Or.inl ⟨by kernel_rfl, fun w' hw => by (go_simp)⟩) hS ?_
          refine wpAnyH_take (i := 1) (v := (.slice (some ad) nk ck)) rfl (by kernel_rfl) (by kernel_rfl) (by kernel_rfl) (fun _ _ _ h => h) (Or.inl ⟨by kernel_rfl, fun w' hw => by (obtain ⟨z0, z1⟩ := hw; go_simp)⟩) hS ?_
          refine wpAnyH_take (i := 2) (v := (.pointer (some ⟨wr.heap.size, 1, none⟩))) rfl (by kernel_rfl) (by kernel_rfl) (by kernel_rfl) (fun _ _ _ h => h) (Or.inl ⟨by kernel_rfl, fun w' hw => by (go_simp)⟩) hS ?_
          refine wpAnyH_take (i := 3) (v := (.slice (some ad) nk ck)) rfl (by kernel_rfl) (by kernel_rfl) (by kernel_rfl) (fun _ _ _ h => h) (Or.inl ⟨by kernel_rfl, fun w' hw => by (obtain ⟨z0, z1⟩ := hw; go_simp)⟩) hS ?_
          refine wpAnyH_take (i := 4) (v := (.int .i64 (nk : Int))) rfl (by kernel_rfl) (by kernel_rfl) (by kernel_rfl) (fun _ _ _ h => h) (Or.inl ⟨by kernel_rfl, fun w' hw => by (go_simp)⟩) hS ?_
          refine wpAnyH_take (i := 5) (v := (.pointer (some ⟨b, 0, none⟩))) rfl (by kernel_rfl) (by kernel_rfl) (by kernel_rfl) (fun _ _ _ h => h) (Or.inl ⟨by kernel_rfl, fun w' hw => by (go_simp)⟩) hS ?_
          refine wpAnyH_take (i := 6) (v := (.pointer (some ⟨b, 0, none⟩))) rfl (by kernel_rfl) (by kernel_rfl) (by kernel_rfl) (fun _ _ _ h => h) (Or.inl ⟨by kernel_rfl, fun w' hw => by (go_simp)⟩) hS ?_
          refine wpAnyH_take (i := 7) (v := (.pointer (some ⟨b, 1, none⟩))) rfl (by kernel_rfl) (by kernel_rfl) (by kernel_rfl) (fun _ _ _ h => h) (Or.inl ⟨by kernel_rfl, fun w' hw => by (go_simp)⟩) hS ?_
          refine wpAnyH_take (i := 8) (v := (.slice (some ⟨L.sb, 0, none⟩) σ.n L.cp)) rfl (by kernel_rfl) (by kernel_rfl) (by kernel_rfl) (fun _ _ _ h => h) (Or.inl ⟨by kernel_rfl, fun w' hw => by (obtain ⟨z0, z1⟩ := hw; go_simp)⟩) hS ?_
          refine wpAnyH_take (i := 9) (v := (.int .i64 (σ.n : Int))) rfl (by kernel_rfl) (by kernel_rfl) (by kernel_rfl) (fun _ _ _ h => h) (Or.inl ⟨by kernel_rfl, fun w' hw => by (go_simp)⟩) hS ?_
          refine wpAnyH_take (i := 10) (v := (.int .i64 (m : Int))) rfl (by kernel_rfl) (by kernel_rfl) (by kernel_rfl) (fun _ _ _ h => h) (Or.inl ⟨by kernel_rfl, fun w' hw => by (have mI := HMI.out; go_simp; omega)⟩) hS ?_
          refine wpAnyH_take (i := 11) (v := (.slice (some ad) m ck)) rfl (by kernel_rfl) (by kernel_rfl) (by kernel_rfl) (fun _ _ _ h => h) (Or.inl ⟨by kernel_rfl, fun w' hw => by (have e := cut_intsG ad m nk ck hmk hmc w'; go_simp)⟩) hS ?_
          refine wpAnyH_take (i := 12) (v := (.slice (some ad) m ck)) rfl (by kernel_rfl) (by kernel_rfl) (by kernel_rfl) (fun _ _ _ h => h) (Or.inl ⟨by kernel_rfl, fun w' hw => by (go_simp)⟩) hS ?_
          refine wpAnyH_done (by kernel_rfl) ?_ _
          simp only [Act.put, List.getElem_toArray, List.getElem_cons_zero, List.getElem_cons_succ, List.setIfInBounds_toArray, List.set_cons_zero, List.set_cons_succ]
          go_wp2_with (fail)
          have hw0 : Below w.heap.size w (wr.alloc (.cells #[.int .i64 (af : Int), .slice (some ad) nk ck] 54)).drew := HB1.out.drew
          have ha0 : (wr.alloc (.cells #[.int .i64 (af : Int), .slice (some ad) nk ck] 54)).drew.heap[wr.heap.size]? = some (.cells #[.int .i64 (af : Int), .slice (some ad) nk ck] 54 (0, 0)) := HA1.out
          have hsz0 : wr.heap.size < (wr.alloc (.cells #[.int .i64 (af : Int), .slice (some ad) nk ck] 54)).drew.heap.size := lt_of_heap ha0
          generalize (wr.alloc (.cells #[.int .i64 (af : Int), .slice (some ad) nk ck] 54)).drew = W0 at *
          have hb0 := (hw0.block b HD.out.lt).trans HD.out.dev
          have s16 : W0.drew.cell? ⟨b, 5, none⟩ = some L.av ∧ W0.drew.cell? ⟨wr.heap.size, 0, none⟩ = some (.int .i64 (af : Int)) := ⟨cell8 (w := W0.drew) hb0 5, cell8 (w := W0.drew) ha0 0⟩
          have S16 := hide s16
          have HW0 := hide (hw0.drew : Below w.heap.size w W0.drew)
          have HB0 := hide hb0
          have HA0 := hide ha0
          have arm5 : ∀ (W4 : World) (gn cn : Nat), Below W0.drew.heap.size W0.drew W4 → ((W4.alloc (.cells #[.int .i64 (af : Int), .slice (some ⟨gn, 0, none⟩) m cn] 54)).cell? ⟨b, 5, none⟩ = some L.av ∧ (W4.alloc (.cells #[.int .i64 (af : Int), .slice (some ⟨gn, 0, none⟩) m cn] 54)).cell? ⟨wr.heap.size, 0, none⟩ = some (.int .i64 (af : Int))) ∧ (W4.alloc (.cells #[.int .i64 (af : Int), .slice (some ⟨gn, 0, none⟩) m cn] 54)).ownsRow 0 54 2 L.av 0 [] ∧ (∀ (j : Nat) (u : Value), ([.int .i64 (af : Int), .slice (some ⟨gn, 0, none⟩) m cn] : List Value)[j]? = some u → (W4.alloc (.cells #[.int .i64 (af : Int), .slice (some ⟨gn, 0, none⟩) m cn] 54)).cell? ((⟨W4.heap.size, 0, none⟩ : Addr).add j) = some u) ∧ (∀ W8 : World, (W4.alloc (.cells #[.int .i64 (af : Int), .slice (some ⟨gn, 0, none⟩) m cn] 54)).grownBy W8 L.av.ownBlock → W8.cell? ⟨b, 5, none⟩ = some L.av ∧ W8.frozen? ⟨b, 5, none⟩ = false ∧ W8.cell? ⟨wr.heap.size, 0, none⟩ = some (.int .i64 (af : Int))) := fun W4 gn cn hB4 => by
            have e4 : W0.drew.heap.size ≤ W4.heap.size := hB4.size
            have hB5 : Below W0.drew.heap.size W0.drew (W4.alloc (.cells #[.int .i64 (af : Int), .slice (some ⟨gn, 0, none⟩) m cn] 54)) := hB4.alloc e4 _
            have x1 : (W4.alloc (.cells #[.int .i64 (af : Int), .slice (some ⟨gn, 0, none⟩) m cn] 54)).heap[b]? = _ := (hB5.block b (lt_of_heap hb0)).trans hb0
            have x2 : (W4.alloc (.cells #[.int .i64 (af : Int), .slice (some ⟨gn, 0, none⟩) m cn] 54)).heap[wr.heap.size]? = _ := (hB5.block _ (lt_of_heap ha0)).trans ha0
            have hlt : ∀ g, L.av.ownBlock = some g → g < w.heap.size := fun g hg => by obtain ⟨c', hc'⟩ := own_type HAV0.out hg; exact lt_of_heap hc'
            refine ⟨⟨cell8 x1 5, cell8 x2 0⟩, ownsRow_of_block HAV0.out (fun g hg => (hB5.block g (Nat.lt_of_lt_of_le (hlt g hg) hw0.size)).trans (hw0.block g (hlt g hg))), fun j u hu => ?_, fun W8 hg8 => ?_⟩
            · have h := range_all (heapNew W4 (.cells ([.int .i64 (af : Int), .slice (some ⟨gn, 0, none⟩) m cn] : List Value).toArray 54)) j u hu
              rw [Addr.add_mid]; exact h
            · have y1 := (hg8.block b (lt_of_heap x1) (fun e => by obtain ⟨c', hc'⟩ := own_type HAV0.out e.symm; exact ne_ty hc' HD.out.dev (by decide) rfl)).trans x1
              have y2 := (hg8.block _ (lt_of_heap x2) (fun e => by have := hlt _ e.symm; have := HBW.out.size; omega)).trans x2
              exact ⟨cell8 y1 5, froz8 y1 5, cell8 y2 0⟩
          have ARM5 := hide arm5
          clear hw0 hb0 ha0 s16 arm5 HA1 HB1 S15
          refine wp_region_early 14 (fun Y => Y.cell? ⟨b, 5, none⟩ = some L.av ∧ Y.cell? ⟨wr.heap.size, 0, none⟩ = some (.int .i64 (af : Int))) (by kernel_rfl) S16.out (fun hS => ?_)
          refine wpAnyE_take (i := 0) (v := (.pointer (some ⟨b, 0, none⟩))) rfl (by kernel_rfl) (by kernel_rfl) (by kernel_rfl) (by kernel_rfl) (fun _ _ _ h => h) (Or.inl ⟨by kernel_rfl, fun w' hw => by (go_simp)⟩) hS ?_
          refine wpAnyE_take (i := 1) (v := (.pointer (some ⟨b, 0, none⟩))) rfl (by kernel_rfl) (by kernel_rfl) (by kernel_rfl) (by kernel_rfl) (fun _ _ _ h => h) (Or.inl ⟨by kernel_rfl, fun w' hw => by (go_simp)⟩) hS ?_
          refine wpAnyE_take (i := 2) (v := (.pointer (some ⟨b, 0, none⟩))) rfl (by kernel_rfl) (by kernel_rfl) (by kernel_rfl) (by kernel_rfl) (fun _ _ _ h => h) (Or.inl ⟨by kernel_rfl, fun w' hw => by (go_simp)⟩) hS ?_
          refine wpAnyE_take (i := 3) (v := (.pointer (some ⟨b, 5, none⟩))) rfl (by kernel_rfl) (by kernel_rfl) (by kernel_rfl) (by kernel_rfl) (fun _ _ _ h => h) (Or.inl ⟨by kernel_rfl, fun w' hw => by (go_simp)⟩) hS ?_
          refine wpAnyE_take (i := 4) (v := L.av) rfl (by kernel_rfl) (by kernel_rfl) (by kernel_rfl) (by kernel_rfl) (fun _ _ _ h => h) (Or.inl ⟨by kernel_rfl, fun w' hw => by (obtain ⟨z0, z1⟩ := hw; go_simp)⟩) hS ?_
          refine wpAnyE_take (i := 5) (v := (.pointer (some ⟨wr.heap.size, 0, none⟩))) rfl (by kernel_rfl) (by kernel_rfl) (by kernel_rfl) (by kernel_rfl) (fun _ _ _ h => h) (Or.inl ⟨by kernel_rfl, fun w' hw => by (go_simp)⟩) hS ?_
          refine wpAnyE_take (i := 6) (v := (.int .i64 (af : Int))) rfl (by kernel_rfl) (by kernel_rfl) (by kernel_rfl) (by kernel_rfl) (fun _ _ _ h => h) (Or.inl ⟨by kernel_rfl, fun w' hw => by (obtain ⟨z0, z1⟩ := hw; go_simp)⟩) hS ?_
          refine wpAnyE_take (i := 7) (v := (.slice (some ad) m ck)) rfl (by kernel_rfl) (by kernel_rfl) (by kernel_rfl) (by kernel_rfl) (fun _ _ _ h => h) (Or.inl ⟨by kernel_rfl, fun w' hw => by (go_simp)⟩) hS ?_
          refine wpAnyE_do (i := 8) (by kernel_rfl) rfl (by kernel_rfl) (fun K hK => ?_)
          go_wp2_with (go_at_call 40; refine (KC.out _ ?hx).mono ?_; (case hx => exact HW0.out); rintro e W4 ⟨gn, cn, rfl, hgn, hgc, hcl, hB4⟩; have HGN := hide hgn; have HGC := hide hgc; have HCL := hide hcl; have HB4 := hide hB4; clear hgn hgc hcl hB4)
          have s4 : W4.cell? ⟨b, 5, none⟩ = some L.av ∧ W4.cell? ⟨wr.heap.size, 0, none⟩ = some (.int .i64 (af : Int)) := ⟨cell8 ((HB4.out.block b (lt_of_heap HB0.out)).trans HB0.out) 5, cell8 ((HB4.out.block _ (lt_of_heap HA0.out)).trans HA0.out) 0⟩
          refine hK.out _ _ (fun _ => s4) ?_
          clear hK K
          refine wpAnyE_take (i := 9) (v := (.agg #[.int .i64 (af : Int), .slice (some ⟨gn, 0, none⟩) m cn])) rfl (by kernel_rfl) (by kernel_rfl) (by kernel_rfl) (by kernel_rfl) (fun _ _ _ h => h) (Or.inl ⟨by kernel_rfl, fun w' hw => by (go_simp)⟩) s4 ?_
          refine wpAnyE_do (i := 10) (by kernel_rfl) rfl (by kernel_rfl) (fun K hK => ?_)
          refine wp_slice_arm (.tmp 68) (by kernel_rfl) [.int .i64 (af : Int), .slice (some ⟨gn, 0, none⟩) m cn] (by kernel_rfl) (by simp) ?_
          obtain ⟨s5, qo, qc, q8⟩ := ARM5.out W4 gn cn HB4.out
          have QO := hide qo
          have QC := hide qc
          have Q8 := hide q8
          clear qo qc q8
          refine hK.out _ _ (fun _ => s5) ?_
          clear hK K
          refine wpAnyE_do (i := 11) (by kernel_rfl) rfl (by kernel_rfl) (fun K hK => ?_)
          refine wp_append_at (.tmp 63) (.tmp 69) 24 (by kernel_rfl) 0 54 ia (.agg #[.int .i64 0, .slice none 0 0]) 2 32 armSlice hia hiz his hib (by rfl) (by decide) L.av 0 [] (by kernel_rfl) QO.out ⟨W4.heap.size, 0, none⟩ 1 1 [.int .i64 (af : Int), .slice (some ⟨gn, 0, none⟩) m cn] (by kernel_rfl) (by simp) QC.out (by simp [Value.oneCell']) (by unfold maxLen; omega) (by omega) (Nat.zero_le _) ?_
          intro v8 W8 ho8 hg8 _ hl8
          obtain ⟨r0, rf, r1⟩ := Q8.out W8 hg8
          obtain ⟨a8, c8, rfl⟩ := own_slice ho8
          have HO8 := hide ho8
          have HG8 := hide hg8
          have HL8 := hide hl8
          clear ho8 hg8 hl8
          refine hK.out _ _ (fun _ => ⟨r0, r1⟩) ?_
          clear hK K
          refine wpAnyE_do (i := 12) (by kernel_rfl) rfl (by kernel_rfl) (fun K hK => ?_)
          go_simp
          refine hK.out _ _ (fun _ => ⟨r0, r1⟩) ?_
          clear hK K
          refine wpAnyE_do (i := 13) (by kernel_rfl) rfl (by kernel_rfl) (fun K hK => ?_)
          go_simp
          refine hK.out _ _ (fun _ => ⟨r0, r1⟩) ?_
          clear hK K
          refine wpAnyE_do (i := 14) (by kernel_rfl) rfl (by kernel_rfl) (fun K hK => ?_)
          go_simp
          refine hK.out _ _ (fun h => absurd rfl h) ?_
          clear hK K
          refine wpAnyE_done (by kernel_rfl) ?_ _
          try simp only [Act.put, List.getElem_toArray, List.getElem_cons_zero, List.getElem_cons_succ, List.setIfInBounds_toArray, List.set_cons_zero, List.set_cons_succ]
          go_wp2_with (fail)
          go_roundw
          case measure => simp [intOf]
          case rel =>
            refine .inr ⟨rfl, ?_⟩
            have hw0 : Below w.heap.size w W0.drew := HW0.out
            have hB4 := HB4.out
            have e4 : W0.drew.heap.size ≤ W4.heap.size := hB4.size
            have hB5 : Below W0.drew.heap.size W0.drew (W4.alloc (.cells #[.int .i64 (af : Int), .slice (some ⟨gn, 0, none⟩) m cn] 54)) := hB4.alloc e4 _
            have hw5 : Below w.heap.size w (W4.alloc (.cells #[.int .i64 (af : Int), .slice (some ⟨gn, 0, none⟩) m cn] 54)) := hw0.trans (hB5.mono hw0.size)
            have hg8 := HG8.out
            have hlt : ∀ g, L.av.ownBlock = some g → g < w.heap.size := fun g hg => by obtain ⟨c', hc'⟩ := own_type HAV0.out hg; exact lt_of_heap hc'
            have hnb : L.av.ownBlock ≠ some b := fun e => by obtain ⟨c', hc'⟩ := own_type HAV0.out e; exact ne_ty hc' HD.out.dev (by decide) rfl
            have x1 : (W4.alloc (.cells #[.int .i64 (af : Int), .slice (some ⟨gn, 0, none⟩) m cn] 54)).heap[b]? = _ := (hw5.block b HD.out.lt).trans HD.out.dev
            have y1 : W8.heap[b]? = _ := (hg8.block b (lt_of_heap x1) (fun e => hnb e.symm)).trans x1
            have z1 := heap_set1 W8 b 5 _ _ (.slice a8 1 c8) y1
            have hgn5 : gn ≠ b ∧ L.av.ownBlock ≠ some gn ∧ gn < W4.heap.size := by
              obtain ⟨c, hc⟩ := HGC.out
              have h1 := HGN.out
              have h2 := HD.out.lt
              have h3 := hw0.size
              refine ⟨by omega, fun e => by have := hlt gn e; omega, lt_of_heap hc⟩
            have q5 : ∀ k, k < (W4.alloc (.cells #[.int .i64 (af : Int), .slice (some ⟨gn, 0, none⟩) m cn] 54)).heap.size → k ≠ b → L.av.ownBlock ≠ some k → (W8.setCell ⟨b, 5, none⟩ (.slice a8 1 c8)).heap[k]? = (W4.alloc (.cells #[.int .i64 (af : Int), .slice (some ⟨gn, 0, none⟩) m cn] 54)).heap[k]? := fun k h1 h2 h3 => (heap_set_ne _ b 5 k _ h2).trans (hg8.block k h1 (fun e => h3 e.symm))
            have hgn6 : (W8.setCell ⟨b, 5, none⟩ (.slice a8 1 c8)).heap[gn]? = W4.heap[gn]? := (q5 gn (by simp; omega) hgn5.1 hgn5.2.1).trans (Below.heap_alloc _ _ _ hgn5.2.2)
            have hown : (W8.setCell ⟨b, 5, none⟩ (.slice a8 1 c8)).ownsRow 0 54 2 (.slice a8 1 c8) 1 [.int .i64 (af : Int), .slice (some ⟨gn, 0, none⟩) m cn] := ownsRow_of_block HO8.out (fun g hg => heap_set_ne _ b 5 g _ (fun e => by
              obtain ⟨c', hc'⟩ := own_type HO8.out hg
              exact ne_ty hc' y1 (by decide) e))
            have hd := HD.out.armed (w' := W8.setCell ⟨b, 5, none⟩ (.slice a8 1 c8)) (v8 := .slice a8 1 c8) (gk := gn) (af := af) (kp := kp) (by rw [z1]; rfl) hown ⟨some ⟨gn, 0, none⟩, cn, by rw [HKL.out], .inr ⟨gn, rfl, rfl, fun j x hj => (World.cell?_of_block (a := ⟨gn, j, none⟩) hgn6).trans (HCL.out j x hj)⟩⟩ (by obtain ⟨c, hc⟩ := HGC.out; exact ⟨c, hgn6.trans hc⟩) (fun k h1 h2 h3 => (q5 k (Nat.lt_of_lt_of_le h1 hw5.size) h2 h3).trans (hw5.block k h1))
            refine ⟨_, hd, fun k hk => ?_, ?_, Nat.le_refl _⟩
            · rcases hk with r | r | r | r | r | r | r
              · exact .inl (.inl r)
              · exact .inl (.inr (.inl r))
              · exact .inl (.inr (.inr (.inl r)))
              · exact .inl (.inr (.inr (.inr (.inl r))))
              · exact .inl (.inr (.inr (.inr (.inr (.inl r)))))
              · rcases HL8.out with e | e
                · rw [e] at r; exact .inl (.inr (.inr (.inr (.inr (.inr (.inl r))))))
                · rw [e] at r; cases r; exact .inr hw5.size
              · have h1 := HGN.out
                have h3 := hw0.size
                have r : k = gn := r
                exact .inr (by omega)
            · exact ((Gr.of_below hw5 : Gr (Foot b L σ) w (W4.alloc (.cells #[.int .i64 (af : Int), .slice (some ⟨gn, 0, none⟩) m cn] 54))).trans (Gr.of_grown (X := Foot b L σ) hg8 (fun k hk => .inl (.inr (.inr (.inr (.inr (.inr (.inl hk)))))))) (fun i h => .inl h)).trans (Gr.set W8 b 5 _ (X := Foot b L σ) (.inl rfl)) (fun i h => .inl h)
        · have HF := hide hF
          clear hF
          go_wp2_with (fail)
          go_ret
          exact ⟨rfl, HF.out⟩
end
end Go.Proofs.Ytadmekikdaocoaa
namespace Go.Proofs.Ytadmekikdaocoaa
open Go.RowKit Go.Shelf
set_option linter.unusedVariables false

theorem cut_nil (w : World) : (Instr.sliceAt 51 (.slice none 0 0) none (some (.int .i64 0)) none).run Try.prog w = .ok (.slice none 0 0) w := by
  obtain ⟨i, h1, _⟩ := infoInt2
  simp [Instr.sliceAt, Instr.slice, Sem.run_bind, run_underlying Try.underlying51, Instr.sliceBounds, Instr.sliceBound, asIntOf, sizeOf, typeInfo, h1]
theorem pclone_nil (w : World) : Calls Try.prog 40 #[.slice none 0 0] w fun e w' => e = .returned (.slice none 0 0) ∧ Below w.heap.size w w' := by
  have hq : (binOp .eql 51 (.slice none 0 0) (.slice none 0 0)).run Try.prog w = .ok (.bool true) w := by
    have h : ∀ d : Nat, (Op.equalIn (d + 1) 51 (.slice none 0 0) (.slice none 0 0)).run Try.prog w = .ok true w := fun d => by
      simp [Op.equalIn, run_underlying Try.underlying51]
    simp only [binOp]
    simp [Op.equal, Op.maxDepth, h 9999]
  go_enter Try.func40, Try.ntmps40
  go_wp2
  go_ret
  exact ⟨rfl, Below.refl _ _⟩
section
variable {w : World} {b : Nat} {L : Lay} {σ : St}
/-- A loss waits. -/
theorem DevL.armed_nil {w' : World} {v8 kv : Value} {af : Nat} {kp : List Nat} (h : DevL w b L σ) (hb : w'.heap[b]? = some (.cells (devC b { L with av := v8 } { σ with arms := [(af, kp)] }) 73 (0, 0))) (hrow : w'.ownsRow 0 54 2 v8 1 [.int .i64 (af : Int), kv])
    (hkeep : KeepAt w' (fun _ => False) kv kp) (hk : ∀ k, k < w.heap.size → k ≠ b → L.av.ownBlock ≠ some k → w'.heap[k]? = w.heap[k]?) :
    DevL w' b { L with av := v8, KB := fun _ => False } { σ with arms := [(af, kp)] } := by
  have hs : ∀ (k : Nat) (c : Array Value) t fr, w.heap[k]? = some (Obj.cells c t fr) → t ≠ 73 → t ≠ 54 → w'.heap[k]? = w.heap[k]? := fun k c t fr h1 h2 h3 => hk k (lt_of_heap h1) (ne_ty h1 h.dev h2) (fun e => by obtain ⟨c', hc'⟩ := h.av_row e; exact ne_ty h1 hc' h3 rfl)
  have hm : ∀ (k : Nat) es q, w.heap[k]? = some (Obj.map es q) → w'.heap[k]? = w.heap[k]? := fun k es q h1 => hk k (lt_of_heap h1) (ne_map h.dev h1).symm (fun e => by obtain ⟨c', hc'⟩ := h.av_row e; exact ne_map hc' h1 rfl)
  obtain ⟨e1, k1, hob⟩ := h.old.block
  obtain ⟨e2, k2, hfb⟩ := h.flm.block
  refine ⟨hb, (hs _ _ _ _ h.seen (by decide) (by decide)).trans h.seen, h.old.of_block (hm _ _ _ hob), h.flm.of_block (hm _ _ _ hfb),
    fun i hi => (h.pasts i hi).keep (hs _ _ _ _ (h.pasts i hi).1 (by decide) (by decide)) (fun g' hg' => ?_), h.pne, h.rne, h.mne, ⟨[kv], rfl, hrow, fun i k a h1 h2 => ?_⟩, fun k hkb => ?_⟩
  · obtain ⟨c, hc⟩ := (h.pasts i hi).row hg'
    exact hs _ _ _ _ hc (by decide) (by decide)
  · cases i with
    | zero => cases h1; cases h2; exact hkeep
    | succ i => simp at h1
  · exact hkb.elim
set_option maxRecDepth 100000 in
set_option maxHeartbeats 400000 in
/-- Arm of one loss. -/
theorem parm_nil {af ga : Nat} (h : DevL w b L σ) (hok : σ.Ok) (ho : σ.off = false) (harm : σ.arms = []) (haf : 1 ≤ af) (hga : w.heap[ga]? = some (.cells #[.int .i64 (af : Int), .slice none 0 0] 54 (0, 0)))
    (hav : ¬ L.av.ownBlock = some ga) :
    Calls Try.prog 14 #[.pointer (some ⟨b, 0, none⟩), .slice (some ⟨ga, 0, none⟩) 1 1] w fun e w' => e = .returned (.int .i64 0) ∧ ∃ L', DevL w' b L' { σ with arms := [(af, [])] } ∧ (∀ k, Foot b L' { σ with arms := [(af, [])] } k → Foot b L σ k ∨ w.heap.size ≤ k) ∧ Gr (Foot b L σ) w w' ∧ L'.N ≤ L.N := by
  have hmx := hok.max
  have ks := pstate_any h
  rw [ho] at ks
  simp only [Bool.false_eq_true, if_false] at ks
  obtain ⟨ia, hia, hiz, his, hib⟩ := infoArm2
  have hav0 : w.ownsRow 0 54 2 L.av 0 [] := by
    obtain ⟨ks', hl', ho', _⟩ := h.arms
    rw [harm] at hl' ho'
    have : ks' = [] := List.eq_nil_of_length_eq_zero (by simpa using hl')
    subst this
    exact ho'
  obtain ⟨avp, avc, hava⟩ := own_slice hav0
  have km : ∀ W : World, Below w.heap.size w W → Calls Try.prog 39 #[.slice none 0 0] W fun e w' => e = .returned (.bool true) ∧ w' = W := fun W hB => pmay_any (w := W) (ks := []) 0 ⟨by simp, .inl ⟨rfl, rfl⟩⟩ (by simp)
  have kc : ∀ W : World, Below w.heap.size w W → Calls Try.prog 40 #[.slice none 0 0] W fun e w' => e = .returned (.slice none 0 0) ∧ Below W.heap.size W w' := fun W hB => pclone_nil W
  have fx : ∀ W : World, Below w.heap.size w W → W.cell? ⟨ga, 0, none⟩ = some (.int .i64 (af : Int)) ∧ W.cell? ⟨ga, 1, none⟩ = some (.slice none 0 0) ∧ W.cell? ⟨b, 5, none⟩ = some L.av ∧ W.cell? ⟨b, 1, none⟩ = some (.slice (some ⟨L.sb, 0, none⟩) σ.n L.cp) := fun W hB => by
    have e1 := (hB.block ga (lt_of_heap hga)).trans hga
    have e2 := (hB.block b h.lt).trans h.dev
    exact ⟨cell8 e1 0, cell8 e1 1, cell8 e2 5, cell8 e2 1⟩
  have ix := fun Y => index_arm ga 1 1 (by omega) Y
  have HD := hide h
  have HAV0 := hide hav0
  have HAVA := hide hava
  have KS := hide ks
  have KM := hide km
  have KC := hide kc
  have FX := hide fx
  have afI : ¬ (af : Int) < 1 := by omega
  clear h ks km kc fx hok ho harm hga hav0 hava hav
  go_enter Try.func14, Try.ntmps14
  go_wp2_with (go_at_call 38; refine (KS.out).mono ?_; rintro e w' ⟨rfl, hw⟩; obtain rfl := hw.symm)
  go_loopw [18] (fun iv wr => (iv = .int .i64 0 ∨ iv = .int .i64 1) ∧ Below w.heap.size w wr) (fun iv _ => (1 - (intOf iv).toNat))
  case atStart => exact ⟨.inl rfl, Below.refl _ _⟩
  case round =>
    obtain ⟨rfl | rfl, hB⟩ := hrel
    · obtain ⟨f0, f1, f5, f6⟩ := FX.out wr hB
      have hB1 : Below w.heap.size w (wr.alloc (.cells #[.int .i64 (af : Int), .slice none 0 0] 54)) := hB.alloc hB.size _
      have HB1 := hide hB1
      clear hB hB1
      go_wp2_with (go_at_call 39; refine (KM.out _ ?hx).mono ?_; (case hx => exact HB1.out); rintro e w' ⟨rfl, hw⟩; obtain rfl := hw.symm)
      go_roundw
      case rel => exact ⟨.inr rfl, HB1.out⟩
      case measure => simp [intOf]
    · obtain ⟨f0, f1, f5, f6⟩ := FX.out wr hB
      rw [HAVA.out] at f5
      have HB := hide hB
      clear hB
      go_wp2_with (fail)
      go_loopw [43] (fun iv wx => (iv = .int .i64 0 ∧ Below w.heap.size w wx) ∨ (iv = .int .i64 1 ∧ ∃ L', DevL wx b L' { σ with arms := [(af, [])] } ∧ (∀ k, Foot b L' { σ with arms := [(af, [])] } k → Foot b L σ k ∨ w.heap.size ≤ k) ∧ Gr (Foot b L σ) w wx ∧ L'.N ≤ L.N)) (fun iv _ => (1 - (intOf iv).toNat))
      case atStart => exact .inl ⟨rfl, HB.out⟩
      case round =>
        rcases hrel with ⟨rfl, hB⟩ | ⟨rfl, hF⟩
        · obtain ⟨f0, f1, f5x, f6x⟩ := FX.out wr hB
          have hB1 : Below w.heap.size w (wr.alloc (.cells #[.int .i64 (af : Int), .slice none 0 0] 54)) := hB.alloc hB.size _
          obtain ⟨_, _, g5, g6⟩ := FX.out _ hB1
          have ha1 := heapNew wr (.cells #[.int .i64 (af : Int), .slice none 0 0] 54)
          have s15 : (wr.alloc (.cells #[.int .i64 (af : Int), .slice none 0 0] 54)).drew.cell? ⟨wr.heap.size, 1, none⟩ = some (.slice none 0 0) ∧ (wr.alloc (.cells #[.int .i64 (af : Int), .slice none 0 0] 54)).drew.cell? ⟨b, 1, none⟩ = some (.slice (some ⟨L.sb, 0, none⟩) σ.n L.cp) := ⟨cell8 (w := (wr.alloc (.cells #[.int .i64 (af : Int), .slice none 0 0] 54)).drew) ha1 1, g6⟩
          have S15 := hide s15
          have HB1 := hide hB1
          have HA1 := hide ha1
          have HBW := hide hB
          clear hB hB1 ha1 s15 g5 g6 f5x f6x
          go_wp2_with (fail)
          refine wp_region_held_drew (S := fun Y => Y.cell? ⟨wr.heap.size, 1, none⟩ = some (.slice none 0 0) ∧ Y.cell? ⟨b, 1, none⟩ = some (.slice (some ⟨L.sb, 0, none⟩) σ.n L.cp)) (by kernel_rfl) S15.out (fun hS => ?_)
          refine wpAnyH_take (i := 0) (v := (.pointer (some ⟨wr.heap.size, 1, none⟩))) rfl (by kernel_rfl) (by kernel_rfl) (by kernel_rfl) (fun _ _ _ h => h) (Or.inl ⟨by kernel_rfl, fun w' hw => by (go_simp)⟩) hS ?_
          refine wpAnyH_take (i := 1) (v := (.slice none 0 0)) rfl (by kernel_rfl) (by kernel_rfl) (by kernel_rfl) (fun _ _ _ h => h) (Or.inl ⟨by kernel_rfl, fun w' hw => by (obtain ⟨z0, z1⟩ := hw; go_simp)⟩) hS ?_
          refine wpAnyH_take (i := 2) (v := (.pointer (some ⟨wr.heap.size, 1, none⟩))) rfl (by kernel_rfl) (by kernel_rfl) (by kernel_rfl) (fun _ _ _ h => h) (Or.inl ⟨by kernel_rfl, fun w' hw => by (go_simp)⟩) hS ?_
          refine wpAnyH_take (i := 3) (v := (.slice none 0 0)) rfl (by kernel_rfl) (by kernel_rfl) (by kernel_rfl) (fun _ _ _ h => h) (Or.inl ⟨by kernel_rfl, fun w' hw => by (obtain ⟨z0, z1⟩ := hw; go_simp)⟩) hS ?_
          refine wpAnyH_take (i := 4) (v := (.int .i64 0)) rfl (by kernel_rfl) (by kernel_rfl) (by kernel_rfl) (fun _ _ _ h => h) (Or.inl ⟨by kernel_rfl, fun w' hw => by (go_simp)⟩) hS ?_
          refine wpAnyH_take (i := 5) (v := (.pointer (some ⟨b, 0, none⟩))) rfl (by kernel_rfl) (by kernel_rfl) (by kernel_rfl) (fun _ _ _ h => h) (Or.inl ⟨by kernel_rfl, fun w' hw => by (go_simp)⟩) hS ?_
          refine wpAnyH_take (i := 6) (v := (.pointer (some ⟨b, 0, none⟩))) rfl (by kernel_rfl) (by kernel_rfl) (by kernel_rfl) (fun _ _ _ h => h) (Or.inl ⟨by kernel_rfl, fun w' hw => by (go_simp)⟩) hS ?_
          refine wpAnyH_take (i := 7) (v := (.pointer (some ⟨b, 1, none⟩))) rfl (by kernel_rfl) (by kernel_rfl) (by kernel_rfl) (fun _ _ _ h => h) (Or.inl ⟨by kernel_rfl, fun w' hw => by (go_simp)⟩) hS ?_
          refine wpAnyH_take (i := 8) (v := (.slice (some ⟨L.sb, 0, none⟩) σ.n L.cp)) rfl (by kernel_rfl) (by kernel_rfl) (by kernel_rfl) (fun _ _ _ h => h) (Or.inl ⟨by kernel_rfl, fun w' hw => by (obtain ⟨z0, z1⟩ := hw; go_simp)⟩) hS ?_
          refine wpAnyH_take (i := 9) (v := (.int .i64 (σ.n : Int))) rfl (by kernel_rfl) (by kernel_rfl) (by kernel_rfl) (fun _ _ _ h => h) (Or.inl ⟨by kernel_rfl, fun w' hw => by (go_simp)⟩) hS ?_
          refine wpAnyH_take (i := 10) (v := (.int .i64 0)) rfl (by kernel_rfl) (by kernel_rfl) (by kernel_rfl) (fun _ _ _ h => h) (Or.inl ⟨by kernel_rfl, fun w' hw => by (go_simp; intro hx; omega)⟩) hS ?_
          refine wpAnyH_take (i := 11) (v := (.slice none 0 0)) rfl (by kernel_rfl) (by kernel_rfl) (by kernel_rfl) (fun _ _ _ h => h) (Or.inl ⟨by kernel_rfl, fun w' hw => by (have e := cut_nil w'; go_simp)⟩) hS ?_
          refine wpAnyH_take (i := 12) (v := (.slice none 0 0)) rfl (by kernel_rfl) (by kernel_rfl) (by kernel_rfl) (fun _ _ _ h => h) (Or.inl ⟨by kernel_rfl, fun w' hw => by (go_simp)⟩) hS ?_
          refine wpAnyH_done (by kernel_rfl) ?_ _
          simp only [Act.put, List.getElem_toArray, List.getElem_cons_zero, List.getElem_cons_succ, List.setIfInBounds_toArray, List.set_cons_zero, List.set_cons_succ]
          go_wp2_with (fail)
          have hw0 : Below w.heap.size w (wr.alloc (.cells #[.int .i64 (af : Int), .slice none 0 0] 54)).drew := HB1.out.drew
          have ha0 : (wr.alloc (.cells #[.int .i64 (af : Int), .slice none 0 0] 54)).drew.heap[wr.heap.size]? = some (.cells #[.int .i64 (af : Int), .slice none 0 0] 54 (0, 0)) := HA1.out
          have hsz0 : wr.heap.size < (wr.alloc (.cells #[.int .i64 (af : Int), .slice none 0 0] 54)).drew.heap.size := lt_of_heap ha0
          generalize (wr.alloc (.cells #[.int .i64 (af : Int), .slice none 0 0] 54)).drew = W0 at *
          have hb0 := (hw0.block b HD.out.lt).trans HD.out.dev
          have s16 : W0.drew.cell? ⟨b, 5, none⟩ = some L.av ∧ W0.drew.cell? ⟨wr.heap.size, 0, none⟩ = some (.int .i64 (af : Int)) := ⟨cell8 (w := W0.drew) hb0 5, cell8 (w := W0.drew) ha0 0⟩
          have S16 := hide s16
          have HW0 := hide (hw0.drew : Below w.heap.size w W0.drew)
          have HB0 := hide hb0
          have HA0 := hide ha0
          have arm5 : ∀ (W4 : World), Below W0.drew.heap.size W0.drew W4 → ((W4.alloc (.cells #[.int .i64 (af : Int), .slice none 0 0] 54)).cell? ⟨b, 5, none⟩ = some L.av ∧ (W4.alloc (.cells #[.int .i64 (af : Int), .slice none 0 0] 54)).cell? ⟨wr.heap.size, 0, none⟩ = some (.int .i64 (af : Int))) ∧ (W4.alloc (.cells #[.int .i64 (af : Int), .slice none 0 0] 54)).ownsRow 0 54 2 L.av 0 [] ∧ (∀ (j : Nat) (u : Value), ([.int .i64 (af : Int), .slice none 0 0] : List Value)[j]? = some u → (W4.alloc (.cells #[.int .i64 (af : Int), .slice none 0 0] 54)).cell? ((⟨W4.heap.size, 0, none⟩ : Addr).add j) = some u) ∧ (∀ W8 : World, (W4.alloc (.cells #[.int .i64 (af : Int), .slice none 0 0] 54)).grownBy W8 L.av.ownBlock → W8.cell? ⟨b, 5, none⟩ = some L.av ∧ W8.frozen? ⟨b, 5, none⟩ = false ∧ W8.cell? ⟨wr.heap.size, 0, none⟩ = some (.int .i64 (af : Int))) := fun W4 hB4 => by
            have e4 : W0.drew.heap.size ≤ W4.heap.size := hB4.size
            have hB5 : Below W0.drew.heap.size W0.drew (W4.alloc (.cells #[.int .i64 (af : Int), .slice none 0 0] 54)) := hB4.alloc e4 _
            have x1 : (W4.alloc (.cells #[.int .i64 (af : Int), .slice none 0 0] 54)).heap[b]? = _ := (hB5.block b (lt_of_heap hb0)).trans hb0
            have x2 : (W4.alloc (.cells #[.int .i64 (af : Int), .slice none 0 0] 54)).heap[wr.heap.size]? = _ := (hB5.block _ (lt_of_heap ha0)).trans ha0
            have hlt : ∀ g, L.av.ownBlock = some g → g < w.heap.size := fun g hg => by obtain ⟨c', hc'⟩ := own_type HAV0.out hg; exact lt_of_heap hc'
            refine ⟨⟨cell8 x1 5, cell8 x2 0⟩, ownsRow_of_block HAV0.out (fun g hg => (hB5.block g (Nat.lt_of_lt_of_le (hlt g hg) hw0.size)).trans (hw0.block g (hlt g hg))), fun j u hu => ?_, fun W8 hg8 => ?_⟩
            · have h := range_all (heapNew W4 (.cells ([.int .i64 (af : Int), .slice none 0 0] : List Value).toArray 54)) j u hu
              rw [Addr.add_mid]; exact h
            · have y1 := (hg8.block b (lt_of_heap x1) (fun e => by obtain ⟨c', hc'⟩ := own_type HAV0.out e.symm; exact ne_ty hc' HD.out.dev (by decide) rfl)).trans x1
              have y2 := (hg8.block _ (lt_of_heap x2) (fun e => by have := hlt _ e.symm; have := HBW.out.size; omega)).trans x2
              exact ⟨cell8 y1 5, froz8 y1 5, cell8 y2 0⟩
          have ARM5 := hide arm5
          clear hw0 hb0 ha0 s16 arm5 HA1 HB1 S15
          refine wp_region_early 14 (fun Y => Y.cell? ⟨b, 5, none⟩ = some L.av ∧ Y.cell? ⟨wr.heap.size, 0, none⟩ = some (.int .i64 (af : Int))) (by kernel_rfl) S16.out (fun hS => ?_)
          refine wpAnyE_take (i := 0) (v := (.pointer (some ⟨b, 0, none⟩))) rfl (by kernel_rfl) (by kernel_rfl) (by kernel_rfl) (by kernel_rfl) (fun _ _ _ h => h) (Or.inl ⟨by kernel_rfl, fun w' hw => by (go_simp)⟩) hS ?_
          refine wpAnyE_take (i := 1) (v := (.pointer (some ⟨b, 0, none⟩))) rfl (by kernel_rfl) (by kernel_rfl) (by kernel_rfl) (by kernel_rfl) (fun _ _ _ h => h) (Or.inl ⟨by kernel_rfl, fun w' hw => by (go_simp)⟩) hS ?_
          refine wpAnyE_take (i := 2) (v := (.pointer (some ⟨b, 0, none⟩))) rfl (by kernel_rfl) (by kernel_rfl) (by kernel_rfl) (by kernel_rfl) (fun _ _ _ h => h) (Or.inl ⟨by kernel_rfl, fun w' hw => by (go_simp)⟩) hS ?_
          refine wpAnyE_take (i := 3) (v := (.pointer (some ⟨b, 5, none⟩))) rfl (by kernel_rfl) (by kernel_rfl) (by kernel_rfl) (by kernel_rfl) (fun _ _ _ h => h) (Or.inl ⟨by kernel_rfl, fun w' hw => by (go_simp)⟩) hS ?_
          refine wpAnyE_take (i := 4) (v := L.av) rfl (by kernel_rfl) (by kernel_rfl) (by kernel_rfl) (by kernel_rfl) (fun _ _ _ h => h) (Or.inl ⟨by kernel_rfl, fun w' hw => by (obtain ⟨z0, z1⟩ := hw; go_simp)⟩) hS ?_
          refine wpAnyE_take (i := 5) (v := (.pointer (some ⟨wr.heap.size, 0, none⟩))) rfl (by kernel_rfl) (by kernel_rfl) (by kernel_rfl) (by kernel_rfl) (fun _ _ _ h => h) (Or.inl ⟨by kernel_rfl, fun w' hw => by (go_simp)⟩) hS ?_
          refine wpAnyE_take (i := 6) (v := (.int .i64 (af : Int))) rfl (by kernel_rfl) (by kernel_rfl) (by kernel_rfl) (by kernel_rfl) (fun _ _ _ h => h) (Or.inl ⟨by kernel_rfl, fun w' hw => by (obtain ⟨z0, z1⟩ := hw; go_simp)⟩) hS ?_
          refine wpAnyE_take (i := 7) (v := (.slice none 0 0)) rfl (by kernel_rfl) (by kernel_rfl) (by kernel_rfl) (by kernel_rfl) (fun _ _ _ h => h) (Or.inl ⟨by kernel_rfl, fun w' hw => by (go_simp)⟩) hS ?_
          refine wpAnyE_do (i := 8) (by kernel_rfl) rfl (by kernel_rfl) (fun K hK => ?_)
          go_wp2_with (go_at_call 40; refine (KC.out _ ?hx).mono ?_; (case hx => exact HW0.out); rintro e W4 ⟨rfl, hB4⟩; have HB4 := hide hB4; clear hB4)
          have s4 : W4.cell? ⟨b, 5, none⟩ = some L.av ∧ W4.cell? ⟨wr.heap.size, 0, none⟩ = some (.int .i64 (af : Int)) := ⟨cell8 ((HB4.out.block b (lt_of_heap HB0.out)).trans HB0.out) 5, cell8 ((HB4.out.block _ (lt_of_heap HA0.out)).trans HA0.out) 0⟩
          refine hK.out _ _ (fun _ => s4) ?_
          clear hK K
          refine wpAnyE_take (i := 9) (v := (.agg #[.int .i64 (af : Int), .slice none 0 0])) rfl (by kernel_rfl) (by kernel_rfl) (by kernel_rfl) (by kernel_rfl) (fun _ _ _ h => h) (Or.inl ⟨by kernel_rfl, fun w' hw => by (go_simp)⟩) s4 ?_
          refine wpAnyE_do (i := 10) (by kernel_rfl) rfl (by kernel_rfl) (fun K hK => ?_)
          refine wp_slice_arm (.tmp 68) (by kernel_rfl) [.int .i64 (af : Int), .slice none 0 0] (by kernel_rfl) (by simp) ?_
          obtain ⟨s5, qo, qc, q8⟩ := ARM5.out W4 HB4.out
          have QO := hide qo
          have QC := hide qc
          have Q8 := hide q8
          clear qo qc q8
          refine hK.out _ _ (fun _ => s5) ?_
          clear hK K
          refine wpAnyE_do (i := 11) (by kernel_rfl) rfl (by kernel_rfl) (fun K hK => ?_)
          refine wp_append_at (.tmp 63) (.tmp 69) 24 (by kernel_rfl) 0 54 ia (.agg #[.int .i64 0, .slice none 0 0]) 2 32 armSlice hia hiz his hib (by rfl) (by decide) L.av 0 [] (by kernel_rfl) QO.out ⟨W4.heap.size, 0, none⟩ 1 1 [.int .i64 (af : Int), .slice none 0 0] (by kernel_rfl) (by simp) QC.out (by simp [Value.oneCell']) (by unfold maxLen; omega) (by omega) (Nat.zero_le _) ?_
          intro v8 W8 ho8 hg8 _ hl8
          obtain ⟨r0, rf, r1⟩ := Q8.out W8 hg8
          obtain ⟨a8, c8, rfl⟩ := own_slice ho8
          have HO8 := hide ho8
          have HG8 := hide hg8
          have HL8 := hide hl8
          clear ho8 hg8 hl8
          refine hK.out _ _ (fun _ => ⟨r0, r1⟩) ?_
          clear hK K
          refine wpAnyE_do (i := 12) (by kernel_rfl) rfl (by kernel_rfl) (fun K hK => ?_)
          go_simp
          refine hK.out _ _ (fun _ => ⟨r0, r1⟩) ?_
          clear hK K
          refine wpAnyE_do (i := 13) (by kernel_rfl) rfl (by kernel_rfl) (fun K hK => ?_)
          go_simp
          refine hK.out _ _ (fun _ => ⟨r0, r1⟩) ?_
          clear hK K
          refine wpAnyE_do (i := 14) (by kernel_rfl) rfl (by kernel_rfl) (fun K hK => ?_)
          go_simp
          refine hK.out _ _ (fun h => absurd rfl h) ?_
          clear hK K
          refine wpAnyE_done (by kernel_rfl) ?_ _
          try simp only [Act.put, List.getElem_toArray, List.getElem_cons_zero, List.getElem_cons_succ, List.setIfInBounds_toArray, List.set_cons_zero, List.set_cons_succ]
          go_wp2_with (fail)
          go_roundw
          case measure => simp [intOf]
          case rel =>
            refine .inr ⟨rfl, ?_⟩
            have hw0 : Below w.heap.size w W0.drew := HW0.out
            have hB4 := HB4.out
            have e4 : W0.drew.heap.size ≤ W4.heap.size := hB4.size
            have hB5 : Below W0.drew.heap.size W0.drew (W4.alloc (.cells #[.int .i64 (af : Int), .slice none 0 0] 54)) := hB4.alloc e4 _
            have hw5 : Below w.heap.size w (W4.alloc (.cells #[.int .i64 (af : Int), .slice none 0 0] 54)) := hw0.trans (hB5.mono hw0.size)
            have hg8 := HG8.out
            have hlt : ∀ g, L.av.ownBlock = some g → g < w.heap.size := fun g hg => by obtain ⟨c', hc'⟩ := own_type HAV0.out hg; exact lt_of_heap hc'
            have hnb : L.av.ownBlock ≠ some b := fun e => by obtain ⟨c', hc'⟩ := own_type HAV0.out e; exact ne_ty hc' HD.out.dev (by decide) rfl
            have x1 : (W4.alloc (.cells #[.int .i64 (af : Int), .slice none 0 0] 54)).heap[b]? = _ := (hw5.block b HD.out.lt).trans HD.out.dev
            have y1 : W8.heap[b]? = _ := (hg8.block b (lt_of_heap x1) (fun e => hnb e.symm)).trans x1
            have z1 := heap_set1 W8 b 5 _ _ (.slice a8 1 c8) y1
            have q5 : ∀ k, k < (W4.alloc (.cells #[.int .i64 (af : Int), .slice none 0 0] 54)).heap.size → k ≠ b → L.av.ownBlock ≠ some k → (W8.setCell ⟨b, 5, none⟩ (.slice a8 1 c8)).heap[k]? = (W4.alloc (.cells #[.int .i64 (af : Int), .slice none 0 0] 54)).heap[k]? := fun k h1 h2 h3 => (heap_set_ne _ b 5 k _ h2).trans (hg8.block k h1 (fun e => h3 e.symm))
            have hown : (W8.setCell ⟨b, 5, none⟩ (.slice a8 1 c8)).ownsRow 0 54 2 (.slice a8 1 c8) 1 [.int .i64 (af : Int), .slice none 0 0] := ownsRow_of_block HO8.out (fun g hg => heap_set_ne _ b 5 g _ (fun e => by
              obtain ⟨c', hc'⟩ := own_type HO8.out hg
              exact ne_ty hc' y1 (by decide) e))
            have hd := HD.out.armed_nil (w' := W8.setCell ⟨b, 5, none⟩ (.slice a8 1 c8)) (v8 := .slice a8 1 c8) (af := af) (kp := []) (by rw [z1]; rfl) hown ⟨none, 0, rfl, .inl ⟨rfl, rfl⟩⟩ (fun k h1 h2 h3 => (q5 k (Nat.lt_of_lt_of_le h1 hw5.size) h2 h3).trans (hw5.block k h1))
            refine ⟨_, hd, fun k hk => ?_, ?_, Nat.le_refl _⟩
            · rcases hk with r | r | r | r | r | r | r
              · exact .inl (.inl r)
              · exact .inl (.inr (.inl r))
              · exact .inl (.inr (.inr (.inl r)))
              · exact .inl (.inr (.inr (.inr (.inl r))))
              · exact .inl (.inr (.inr (.inr (.inr (.inl r)))))
              · rcases HL8.out with e | e
                · rw [e] at r; exact .inl (.inr (.inr (.inr (.inr (.inr (.inl r))))))
                · rw [e] at r; cases r; exact .inr hw5.size
              · exact r.elim
            · exact ((Gr.of_below hw5 : Gr (Foot b L σ) w (W4.alloc (.cells #[.int .i64 (af : Int), .slice none 0 0] 54))).trans (Gr.of_grown (X := Foot b L σ) hg8 (fun k hk => .inl (.inr (.inr (.inr (.inr (.inr (.inl hk)))))))) (fun i h => .inl h)).trans (Gr.set W8 b 5 _ (X := Foot b L σ) (.inl rfl)) (fun i h => .inl h)
        · have HF := hide hF
          clear hF
          go_wp2_with (fail)
          go_ret
          exact ⟨rfl, HF.out⟩
end
end Go.Proofs.Ytadmekikdaocoaa
namespace Go.Proofs.Ytadmekikdaocoaa
open Go.RowKit Go.Shelf
set_option linter.unusedVariables false
set_option maxRecDepth 100000

/-- A log and its device, where a loss may wait. -/
structure Lw (B0 : Nat) (w : World) (gl b a z : Nat) (L : Lay) (σ : St) : Prop where
  dv : Dv w b L σ
  log : LogL w gl b a z
  far : ∀ k, Foot b L σ k → B0 ≤ k
  big : B0 ≤ w.heap.size
theorem Lw.below {B0 gl b a z : Nat} {w w' : World} {L : Lay} {σ : St} (h : Lw B0 w gl b a z L σ) (hB : Below w.heap.size w w') : Lw B0 w' gl b a z L σ := ⟨h.dv.below hB, h.log.below hB, h.far, Nat.le_trans h.big hB.size⟩
theorem lw_arm {B0 gl b a z af nk ck : Nat} {W : World} {L : Lay} {σ : St} {ka : Option Addr} {zs : List Int} (h : Lg B0 W gl b a z L σ) (haf : 1 ≤ af) (hk : SlZ W ka zs) (hl : zs.length = nk) (hnk : nk ≤ 17592186043904) (hck : nk ≤ ck) (hnil : ka = none → nk = 0 ∧ ck = 0) (hnn : ∀ z ∈ zs, 0 ≤ z) :
    Calls Try.prog 14 #[.pointer (some ⟨b, 0, none⟩), .slice (some ⟨W.heap.size, 0, none⟩) 1 1] (W.alloc (.cells #[.int .i64 (af : Int), .slice ka nk ck] 54)) fun e w' => e = .returned (.int .i64 0) ∧ ∃ L' kp, Lw B0 w' gl b a z L' { σ with arms := [(af, kp)] } ∧ Stp W b L σ w' L' { σ with arms := [(af, kp)] } := by
  have hA : Below W.heap.size W (W.alloc (.cells #[.int .i64 (af : Int), .slice ka nk ck] 54)) := (Below.refl _ W).alloc (Nat.le_refl _) _
  have hga := heap_alloc_new W (.cells #[.int .i64 (af : Int), .slice ka nk ck] 54)
  have h1 := h.below hA
  have hav : ¬ L.av.ownBlock = some W.heap.size := fun e => by
    have := h.dv.dev.foot_is (k := W.heap.size) (.inr (.inr (.inr (.inr (.inr (.inl e))))))
    omega
  have hok := h.dv.ok
  have hmx := hok.max
  have fin : ∀ (kp : List Nat) (w' : World), (∀ x ∈ kp, x < 9223372036854775808) → kp.length ≤ 1400000000000 → (∃ L', DevL w' b L' { σ with arms := [(af, kp)] } ∧ (∀ k, Foot b L' { σ with arms := [(af, kp)] } k → Foot b L σ k ∨ (W.alloc (.cells #[.int .i64 (af : Int), .slice ka nk ck] 54)).heap.size ≤ k) ∧ Gr (Foot b L σ) (W.alloc (.cells #[.int .i64 (af : Int), .slice ka nk ck] 54)) w' ∧ L'.N ≤ L.N) → ∃ L' kp, Lw B0 w' gl b a z L' { σ with arms := [(af, kp)] } ∧ Stp W b L σ w' L' { σ with arms := [(af, kp)] } := fun kp w' hb hkl ⟨L', q1, q2, q3, q4⟩ => by
    have hs := hA.size
    have hfew := h.dv.few.cnt
    have hnum := h.dv.num
    refine ⟨L', kp, ⟨⟨q1, ⟨hok.pos, hok.max, hok.len, hok.byte, hok.out, hok.clen, hok.cbyte, hok.few, hok.flp, hok.opsm⟩, h.dv.on, by show L'.N ≤ σ.ops; omega, ⟨.inr ⟨af, kp, rfl, hb, hkl⟩, hfew⟩, h.dv.cn⟩, ?_, ?_, ?_⟩, ?_, ?_⟩
    · exact q3.keep h1.log (foot_nd h1.dv.dev h1.log log_nd)
    · intro k hk
      rcases q2 k hk with h2 | h2
      · exact h.far k h2
      · have := h.big; omega
    · have := q3.size; have := h.big; omega
    · exact (Gr.of_below hA).trans q3 (fun i hi => .inl hi)
    · intro k hk
      rcases q2 k hk with h2 | h2
      · exact .inl h2
      · exact .inr (by omega)
  have hnng : nonneg zs = true := by
    unfold nonneg
    exact List.all_eq_true.2 fun z hz => decide_eq_true (hnn z hz)
  cases ka with
  | none =>
    obtain ⟨rfl, rfl⟩ := hnil rfl
    refine (parm_nil h1.dv.dev hok h1.dv.on h.calm haf hga hav).mono ?_
    rintro e w' ⟨rfl, hq⟩
    exact ⟨rfl, fin [] w' (by simp) (by simp) hq⟩
  | some ad =>
    have hkw : IntsP (W.alloc (.cells #[.int .i64 (af : Int), .slice (some ad) nk ck] 54)) (some ad) zs := IntsP.below (W := W) ⟨hk.1, hk.2⟩ hA
    refine (parm_gen (m := min nk σ.n) h1.dv.dev hok h1.dv.on h.calm haf hga hl hnk rfl rfl hck hkw hnng hav).mono ?_
    rintro e w' ⟨rfl, hq⟩
    refine ⟨rfl, fin _ w' (fun x hx => ?_) (by rw [List.length_take]; omega) hq⟩
    obtain ⟨z, hz, rfl⟩ := List.mem_map.1 (List.mem_of_mem_take hx)
    have := hk.1 z hz
    omega
/-- What stands behind the Write. -/
structure Bhd (B0 : Nat) (W : World) (b : Nat) (L : Lay) (σ : St) (w' : World) (gl : Nat) (xs : List (Int × Int)) (c : Int) (L' : Lay) (s : St) : Prop where
  dev : DevL w' b L' s
  ok : s.Ok
  n : s.n = 16
  log : LogL w' gl b 128 384
  bel : Below B0 W w'
  stp : Stp W b L σ w' L' s
  code : (c = 0 ∧ s.off = false) ∨ (c = 5 ∧ s.off = true)
  aft : Aft (imgZ 8) xs c s.bytes
theorem lw_write {B0 gl b k cap : Nat} {W : World} {L : Lay} {σ : St} {ea : Option Addr} {xs : List (Int × Int)} (h : Lw B0 W gl b 128 384 L σ) (hn : σ.n = 16) (ho : σ.ops = 0) (hb : σ.bytes = imgZ 8) (hp : ∀ j, σ.past j = []) (hkx : k ≤ xs.length) (hk5 : k ≤ 5) (he : SlE W ea (brL xs k)) :
    Calls Try.prog 9 #[.pointer (some ⟨gl, 0, none⟩), .slice ea k cap] W fun e w' => ∃ c L' s, e = .returned (.int .i64 c) ∧ Bhd B0 W b L σ w' gl (brL xs k) c L' s := by
  obtain ⟨hn2, hn1⟩ := need_brought hkx hk5
  have hlen := brL_len hkx
  have hnum : leV ((σ.bytes.drop 128).take 8) = 0 := by rw [hb]; exact imgZ_num
  have hbel : ∀ w', Gr (Foot b L σ) W w' → Below B0 W w' := fun w' hg => ⟨hg.1, hg.2.1, hg.2.2.1, hg.size, fun i hi => hg.block (by have := h.big; omega) (fun hf => by have := h.far i hf; omega)⟩
  by_cases hk0 : k = 0
  · subst hk0
    have hxs : brL xs 0 = [] := rfl
    rw [hxs] at he hn2 hn1 hlen ⊢
    refine (lwrite_none (cap := cap) h.log h.dv (by omega) (by omega) (by rw [hn]; omega) hnum he hlen (by omega) (by rw [hn]; exact .inr (hn1.2 rfl))).mono ?_
    rintro e w' ⟨rfl, hB⟩
    refine ⟨0, L, σ, by rw [hn, hn2], h.dv.dev.below hB, h.dv.ok, hn, h.log.below hB, hbel w' (Gr.of_below hB), ⟨Gr.of_below hB, fun k hk => .inl hk⟩, .inl ⟨rfl, h.dv.on⟩, ?_⟩
    rw [hb]
    exact ⟨⟨[], .inl rfl, by rw [← hb]; exact hnum, trivial⟩, rfl, rfl⟩
  · have hok := h.dv.ok
    obtain ⟨hfine, _, hroom⟩ := need_good (a := 128) (z := 384) (N := 16) (B := imgZ 8) (xs := brL xs k) imgZ_len (by omega) (by omega) (by omega) (by omega) hn2
    refine (lwrite_ok (cap := cap) h.log h.dv (by omega) (by omega) (by omega) (by rw [hn]; omega) (by omega) hnum he hlen (by omega) (by omega) (by rw [hn]; exact hn2)).mono ?_
    rintro e w' ⟨c, s, rfl, hr, ha⟩
    obtain ⟨hg, L', hd', hf', hN'⟩ := ha
    have hlog := hg.keep h.log (foot_nd h.dv.dev h.log log_nd)
    have hW := wr_after (a := 128) (z := 384) (N := 16) hok hn hb.symm hfine hroom (by omega) (by omega) (by omega) (by omega)
    rw [hb] at hr
    rcases hr.code with rfl | rfl
    · obtain rfl := hr.zero
      refine ⟨0, L', _, rfl, hd', hW.like.ok, hW.like.n.trans hn, hlog, hbel w' hg, ⟨hg, hf'⟩, .inl ⟨rfl, hW.like.off.trans h.dv.on⟩, ?_⟩
      exact aft_full imgZ_len hfine (by omega) (by omega) hW.bytes
    · have hwf := hW.few
      have hg0 : ∀ f ∈ wrF (imgZ 8) 128 (brL xs k), GoodF 16 f := by
        intro f hf
        unfold wrF at hf
        rcases List.mem_append.1 hf with h1 | h1
        · exact recs_good (N := 16) (B := imgZ 8) imgZ_lt (by omega) (brL xs k) (128 + 64) (by omega) f h1
        · rcases List.mem_append.1 h1 with h2 | h2
          · exact rng_good _ _ f h2
          · exact pub_good (by omega) (by omega) f h2
      obtain ⟨r1, r2, r3, r4, r5, r6, r7, r8⟩ := run_len hg0 hok hn (by omega) hr
      refine ⟨5, L', s, rfl, hd', r8, r1, hlog, hbel w' hg, ⟨hg, hf'⟩, .inr ⟨rfl, r4⟩, ?_⟩
      rcases wr_lost (a := 128) (z := 384) (N := 16) hok hn hb.symm hp hfine hroom (by omega) (by omega) (by omega) (by omega) (by omega) hr with h1 | h1
      · exact aft_lost hb imgZ_len (by omega) imgZ_num h1
      · exact aft_full imgZ_len hfine (by omega) (by omega) h1
end Go.Proofs.Ytadmekikdaocoaa
namespace Go.Proofs.Ytadmekikdaocoaa
open Go.RowKit Go.Shelf
set_option linter.unusedVariables false
set_option maxRecDepth 100000

/-- A row of records, each one's bytes somewhere. -/
def RowR (w : World) (v : Value) (rs : List (Nat × List Nat)) : Prop := ∃ a cap, v = .slice a rs.length cap ∧ ∀ (i : Nat) (r : Nat × List Nat), rs[i]? = some r → ∃ gr cur ad oc, a = some ⟨gr, 0, none⟩ ∧ w.heap[gr]? = some (.cells cur 63 (0, 0)) ∧ cur[i * 2]? = some (.int .i64 (r.1 : Int)) ∧ cur[i * 2 + 1]? = some (.slice ad r.2.length oc) ∧ Sl w ad r.2
theorem RowR.below {w w' : World} {v : Value} {rs : List (Nat × List Nat)} (h : RowR w v rs) (hB : Below w.heap.size w w') : RowR w' v rs := by
  obtain ⟨a, cap, rfl, hc⟩ := h
  refine ⟨a, cap, rfl, fun i r hr => ?_⟩
  obtain ⟨gr, cur, ad, oc, h1, h2, h3, h4, h5⟩ := hc i r hr
  exact ⟨gr, cur, ad, oc, h1, (hB.block gr (lt_of_heap h2)).trans h2, h3, h4, h5.below hB⟩
theorem RowC.rowR {w : World} {base : Nat} {v : Value} {rs : List (Nat × List Nat)} {Rs : List Nat} (h : RowC w base v rs Rs) (hb : ∀ r ∈ rs, ∀ y ∈ r.2, y < 256) : RowR w v rs := by
  by_cases h0 : rs = []
  · subst h0
    obtain ⟨a, cap, rfl⟩ := h.nil
    exact ⟨a, cap, rfl, fun i r hr => by simp at hr⟩
  · obtain ⟨gr, cap, cur, rfl, hg, _, hc⟩ := h.slice (by cases rs with | nil => exact absurd rfl h0 | cons x t => simp)
    refine ⟨some ⟨gr, 0, none⟩, cap, rfl, fun i r hr => ?_⟩
    have hi : i < rs.length := (List.getElem?_eq_some_iff.1 hr).1
    have hR : i < Rs.length := by rw [h.len]; exact hi
    obtain ⟨h1, h2⟩ := hc i (r, Rs[i]) (by rw [List.getElem?_zip_eq_some]; exact ⟨hr, List.getElem?_eq_getElem hR⟩)
    obtain ⟨o1, _⟩ := h.own i r Rs[i] hr (List.getElem?_eq_getElem hR)
    exact ⟨gr, cur, _, _, rfl, hg, h1, h2, own_old o1 (hb r (List.mem_of_getElem? hr))⟩
set_option maxHeartbeats 1000000 in
theorem usame_yes {w : World} {v u : Value} {rs : List (Nat × List Nat)} (h : RowR w v rs) (k : RowR w u rs) (hl : rs.length ≤ 4194304) (hb : ∀ r ∈ rs, r.2.length ≤ 4194304) :
    Calls Try.prog 12 #[v, u] w fun e w' => e = .returned (.bool true) ∧ Below w.heap.size w w' := by
  obtain ⟨a, ca, rfl, ha⟩ := h
  obtain ⟨b, cb, rfl, hbb⟩ := k
  obtain ⟨n, hn⟩ : ∃ n, rs.length = n := ⟨_, rfl⟩
  have hne : ((rs.length : Int) != (rs.length : Int)) = false := by simp
  rw [hn] at hne hl ⊢
  have HA := hide ha
  have HBB := hide hbb
  have HN := hide hn
  have HL := hide hb
  clear ha hbb hn hb
  go_enter Try.func12, Try.ntmps12
  go_wp2
  go_loopw [5] (fun iv wr => ∃ k q : Nat, k ≤ n ∧ iv = .int .i64 (k : Int) ∧ wr = w.drewN q) (fun iv _ => n - (intOf iv).toNat)
  case atStart => exact ⟨0, 0, by omega, rfl, rfl⟩
  case round =>
    obtain ⟨k, q, hk, rfl, hwr⟩ := hrel
    by_cases hlt : k < n
    · obtain ⟨r, hr⟩ : ∃ r, rs[k]? = some r := ⟨_, List.getElem?_eq_getElem (by rw [HN.out]; exact hlt)⟩
      obtain ⟨g1, cur1, d1, c1, rfl, hg1, x1, y1, z1⟩ := HA.out k r hr
      obtain ⟨g2, cur2, d2, c2, rfl, hg2, x2, y2, z2⟩ := HBB.out k r hr
      have hrl := HL.out r (List.mem_of_getElem? hr)
      obtain ⟨rx, old⟩ := r
      simp only at x1 y1 z1 x2 y2 z2 hrl
      have hki : (k : Int) < (n : Int) := by omega
      have i1 := index_recU g1 k n ca hlt wr
      have i2 := index_recU g2 k n cb hlt wr
      have p1 : wr.cell? ⟨g1, k * 2, none⟩ = some (.int .i64 (rx : Int)) := by rw [hwr]; exact (cell8 hg1 _).trans x1
      have p2 : wr.cell? ⟨g2, k * 2, none⟩ = some (.int .i64 (rx : Int)) := by rw [hwr]; exact (cell8 hg2 _).trans x2
      have q1 : wr.cell? ⟨g1, k * 2 + 1, none⟩ = some (.slice d1 old.length c1) := by rw [hwr]; exact (cell8 hg1 _).trans y1
      have q2 : wr.cell? ⟨g2, k * 2 + 1, none⟩ = some (.slice d2 old.length c2) := by rw [hwr]; exact (cell8 hg2 _).trans y2
      have KE := hide (fun W (e1 : Sl W d1 old) (e2 : Sl W d2 old) => eqBytes_any d1 d2 c1 c2 old old W e1 e2 (by omega))
      have Z1 := hide (show Sl wr d1 old by rw [hwr]; exact z1)
      have Z2 := hide (show Sl wr d2 old by rw [hwr]; exact z2)
      have HWR := hide hwr
      have hb1 : ((rx : Int) != (rx : Int)) = false := by simp
      have hdd : decide (old = old) = true := by simp
      rw [hdd] at KE
      generalize old.length = ln at *
      clear hg1 hg2 x1 y1 z1 x2 y2 z2 hr hdd hwr
      go_wp2_with (fail)
      go_quiet ((go_at_call 22; refine Calls.quiet_of (KE.out _ Z1.out Z2.out)))
      go_wp2_with (fail)
      go_roundw
      case rel => exact ⟨k + 1, q + nq, by omega, by go_num, by rw [HWR.out, World.drewN_drewN]⟩
      case measure => simp [intOf]; omega
    · have hkk : (n : Int) ≤ (k : Int) := by omega
      go_wp2_with (fail)
      go_ret
      exact ⟨rfl, below_drewN (Below.refl _ _) q⟩
theorem usame_no {w : World} {a b : Option Addr} {n k ca cb : Nat} (h : n ≠ k) : Calls Try.prog 12 #[.slice a n ca, .slice b k cb] w fun e w' => e = .returned (.bool false) ∧ w' = w := by
  have hne : ((n : Int) != (k : Int)) = true := by simp; omega
  go_enter Try.func12, Try.ntmps12
  go_wp2
  go_ret
  exact ⟨rfl, rfl⟩
end Go.Proofs.Ytadmekikdaocoaa
namespace Go.Proofs.Ytadmekikdaocoaa
open Go.RowKit Go.Shelf
set_option linter.unusedVariables false

/-- What the document's device stands for: of each line its contents, the durable one first; which of them was flushed last (-1: none). -/
structure RSt where
  n : Nat
  con : Nat → List (List Nat)
  mark : Nat → Int
  ops : Nat
  cnt : Nat
  gone : Bool
structure RSt.Ok (ρ : RSt) : Prop where
  pos : 1 ≤ ρ.n
  max : ρ.n ≤ 65536
  ne : ∀ i, i < ρ.n → ρ.con i ≠ []
  few : ∀ i, i < ρ.n → (ρ.con i).length ≤ 1400000000001
  len : ∀ i c, i < ρ.n → c ∈ ρ.con i → c.length = 64
  byte : ∀ i c, i < ρ.n → c ∈ ρ.con i → ∀ x ∈ c, x < 256
/-- Where its parts lie. -/
structure RLay where
  lb : Nat
  lc : Nat
  ab : Nat → Nat
  ao : Nat → Nat
  ac : Nat → Nat
  cb : Nat → Nat → Nat
  av : Value
def refC (M : RLay) (ρ : RSt) : Array Value := #[.int .i64 ((64 * ρ.n : Nat) : Int), .slice (some ⟨M.lb, 0, none⟩) ρ.n M.lc, .int .i64 (ρ.ops : Int), M.av, .int .i64 (ρ.cnt : Int), .bool ρ.gone]
/-- Its blocks. -/
def RFoot (b : Nat) (M : RLay) (ρ : RSt) (k : Nat) : Prop := k = b ∨ k = M.lb ∨ (∃ i, i < ρ.n ∧ k = M.ab i) ∨ ∃ i j, i < ρ.n ∧ j < (ρ.con i).length ∧ k = M.cb i j
section
variable {w w' : World} {b : Nat} {M : RLay} {ρ : RSt}
end
theorem index_rrow (g o i len cap : Nat) (hi : i < len) (w : World) : (Instr.indexAt 152 (.slice (some ⟨g, o, none⟩) len cap) (.int .i64 (i : Int))).run Try.prog w = .ok (.pointer (some ⟨g, o + i, none⟩)) w := by
  have h := index_at (t := 152) (e := 33) (sz := 1) Try.underlying152 (by kernel_rfl) g o i len cap hi w
  rwa [Nat.mul_one] at h
/-- As a device stands for it. -/
def rOf (σ : St) (mk : Nat → Int) : RSt := ⟨σ.n, fun i => σ.past i ++ [σ.line i], mk, σ.ops, σ.cnt, σ.off⟩
theorem rOf_ok {σ : St} (h : σ.Ok) (mk : Nat → Int) : (rOf σ mk).Ok where
  pos := h.pos
  max := h.max
  ne := fun i hi => by simp [rOf]
  few := fun i hi => by
    have := h.few i
    have := h.opsm
    simp [rOf]
    omega
  len := fun i c hi hc => by
    rcases List.mem_append.1 hc with h1 | h1
    · exact h.clen i c h1
    · rw [List.mem_singleton.1 h1]; exact line_len h hi
  byte := fun i c hi hc => by
    rcases List.mem_append.1 hc with h1 | h1
    · exact h.cbyte i c h1
    · rw [List.mem_singleton.1 h1]; exact fun x hx => h.byte x (line_mem hx)
end Go.Proofs.Ytadmekikdaocoaa
namespace Go.Proofs.Ytadmekikdaocoaa
open Go.RowKit Go.Shelf
set_option linter.unusedVariables false

theorem infoB8 : ∃ i, Try.prog.info? 5 = some i ∧ i.zero = some (.int .u8 0) ∧ i.size = 1 ∧ i.bytes = 1 := by
  have h : (Try.prog.info? 5).map (fun i => (i.zero, i.size, i.bytes)) = some (some (.int .u8 0), 1, 1) := by kernel_rfl
  obtain ⟨i, h1, h2⟩ := Option.map_eq_some_iff.1 h
  simp only [Prod.mk.injEq] at h2
  exact ⟨i, h1, h2.1, h2.2.1, h2.2.2⟩
theorem index_b8 (g i len cap : Nat) (hi : i < len) (w : World) : (Instr.indexAt 33 (.slice (some ⟨g, 0, none⟩) len cap) (.int .i64 (i : Int))).run Try.prog w = .ok (.pointer (some ⟨g, i, none⟩)) w := by
  have h := index_at (t := 33) (e := 5) (sz := 1) Try.underlying33 (by kernel_rfl) g 0 i len cap hi w
  rwa [Nat.mul_one, Nat.zero_add] at h
section
variable {w : World} {b : Nat} {M : RLay} {σ : St} {mk : Nat → Int}
end
end Go.Proofs.Ytadmekikdaocoaa
namespace Go.Proofs.Ytadmekikdaocoaa
open Go.RowKit Go.Shelf
set_option linter.unusedVariables false

theorem wpAnyH_doS {P : Program} {ops : Array Oper} {Q : Exit → Act → World → Prop} {md : Region.Mode} {S : World → Prop} {i : Nat} {o : Oper} {fuel : Nat} {listed : Array Bool} {a : Act} {w : World} (hr : Region.ready md ops listed = [i]) (ho : ops[i]? = some o) (hw : Region.wanted o (yielded ops a.tmps) = true)
    (h : ∀ K' : Act → World → Prop, Shut (∀ a w, S w → wpAnyH P md ops Q S fuel (listed.setIfInBounds i true) a w → K' a w) → Oper.wp P o a w K' Q) : wpAnyH P md ops Q S (fuel + 1) listed a w := by
  refine wpAnyH_ready (rs := [i]) hr (by simp) (AllReadyH.cons ho (fun K hK => ?_) AllReadyH.nil)
  rw [if_pos hw]
  exact h K (fun a w hs hq => hK a w hs (fun _ => hq))
/-- May a device have that size? -/
def fitS (x : Int) : Prop := 64 ≤ x ∧ x ≤ 4194304 ∧ x % 64 = 0
theorem slice_mid (g o d e n cap : Nat) (hd : d + e ≤ n) (he : 1 ≤ e) (hn : n ≤ cap) (hsm : n ≤ 4194304) (w : World) : (Instr.sliceAt 33 (.slice (some ⟨g, o, none⟩) n cap) (some (.int .i64 (d : Int))) (some (.int .i64 ((d : Int) + (e : Int)))) none).run Try.prog w = .ok (.slice (some ⟨g, o + d, none⟩) e (cap - d)) w := by
  obtain ⟨it, h1, h2⟩ := info_of (t := 5) (n := 1) (by kernel_rfl)
  have hu : Try.prog.underlying 33 = some (.slice 5) := by kernel_rfl
  have c1 : (0 : Int) ≤ (d : Int) + (e : Int) ∧ (d : Int) + (e : Int) ≤ (cap : Int) := by omega
  have c2 : (0 : Int) ≤ (d : Int) ∧ (d : Int) ≤ (d : Int) + (e : Int) := by omega
  have e1 : ((d : Int) + (e : Int)).toNat = d + e := by omega
  have e2 : d + e - d = e := by omega
  have e3 : ¬ cap = d := by omega
  simp [Instr.sliceAt, Instr.slice, Sem.run_bind, run_underlying hu, Instr.sliceBounds, Instr.sliceBound, asIntOf, sizeOf, typeInfo, h1, h2, Addr.add_mid, c1, c2, e1, e2, e3]
end Go.Proofs.Ytadmekikdaocoaa
namespace Go.Proofs.Ytadmekikdaocoaa
open Go.RowKit Go.Shelf
set_option linter.unusedVariables false
set_option maxRecDepth 100000

/-- The cells of records whose bytes lie at blocks of their own. -/
def oldC (B : List Nat) (x : Int × Int) (C : Nat) : List Value := [.int .i64 x.1, .slice (some ⟨C, 0, none⟩) (oldOf B x).length (oldOf B x).length]
structure OldR (w : World) (base : Nat) (v : Value) (B : List Nat) (xs : List (Int × Int)) (Cs : List Nat) : Prop where
  len : Cs.length = xs.length
  row : w.ownsRow base 63 2 v xs.length ((xs.zip Cs).flatMap (fun p => oldC B p.1 p.2))
  own : ∀ (i : Nat) (x : Int × Int) (C : Nat), xs[i]? = some x → Cs[i]? = some C → OwnB w C (oldOf B x)
theorem oldC_get {B : List Nat} : ∀ (l : List ((Int × Int) × Nat)) (i : Nat) (p : (Int × Int) × Nat), l[i]? = some p → (l.flatMap (fun p => oldC B p.1 p.2))[i * 2]? = some (.int .i64 p.1.1) ∧ (l.flatMap (fun p => oldC B p.1 p.2))[i * 2 + 1]? = some (.slice (some ⟨p.2, 0, none⟩) (oldOf B p.1).length (oldOf B p.1).length)
  | [], i, p, h => by simp at h
  | y :: t, 0, p, h => by simp at h; subst h; exact ⟨rfl, rfl⟩
  | y :: t, i + 1, p, h => by
    have h1 := oldC_get (B := B) t i p (by simpa using h)
    have e : ((y :: t).flatMap (fun p => oldC B p.1 p.2)) = .int .i64 y.1.1 :: .slice (some ⟨y.2, 0, none⟩) (oldOf B y.1).length (oldOf B y.1).length :: t.flatMap (fun p => oldC B p.1 p.2) := rfl
    rw [e, show (i + 1) * 2 = i * 2 + 1 + 1 by omega]
    exact h1
theorem OldR.rowR {w : World} {base : Nat} {v : Value} {B : List Nat} {xs : List (Int × Int)} {Cs : List Nat} (h : OldR w base v B xs Cs) (hb : ∀ y ∈ B, y < 256) (h0 : ∀ x ∈ xs, 0 ≤ x.1) : RowR w v (recL B xs) := by
  have hl := recL_len B xs
  rcases h.row.2 with ⟨rfl, e⟩ | ⟨g, cp, cur, rfl, h1, h2, h3, h4, h5, h6⟩
  · refine ⟨none, 0, by rw [hl, e], fun i r hr => ?_⟩
    have := (List.getElem?_eq_some_iff.1 hr).1
    omega
  · refine ⟨some ⟨g, 0, none⟩, cp, by rw [hl], fun i r hr => ?_⟩
    have hi : i < xs.length := by have := (List.getElem?_eq_some_iff.1 hr).1; omega
    have hC : i < Cs.length := by rw [h.len]; exact hi
    have hx : xs[i]? = some xs[i] := List.getElem?_eq_getElem hi
    have hCC : Cs[i]? = some Cs[i] := List.getElem?_eq_getElem hC
    have hr2 : r = (xs[i].1.toNat, oldOf B xs[i]) := by
      unfold recL at hr
      rw [List.getElem?_map, hx] at hr
      simpa using hr.symm
    obtain ⟨c0, c1⟩ := oldC_get (B := B) (xs.zip Cs) i (xs[i], Cs[i]) (by rw [List.getElem?_zip_eq_some]; exact ⟨hx, hCC⟩)
    rw [← h6, List.getElem?_take, if_pos (by omega), Array.getElem?_toList] at c0 c1
    have hp := h0 xs[i] (List.getElem_mem hi)
    subst hr2
    refine ⟨g, cur, _, _, rfl, h2, ?_, c1, (h.own i _ _ hx hCC).sl ?_⟩
    · rw [c0]
      simp only
      rw [show ((xs[i].1.toNat : Nat) : Int) = xs[i].1 by omega]
    · intro y hy
      unfold oldOf at hy
      exact hb y (List.mem_of_mem_drop (List.mem_of_mem_take hy))
theorem recs_info : ∃ i, Try.prog.info? 63 = some i ∧ i.zero = some (.agg #[.int .i64 0, .slice none 0 0]) ∧ i.size = 2 ∧ i.bytes = 32 := infoRec
set_option maxHeartbeats 2000000 in
theorem uolds_any {w : World} {R m ic c : Nat} {B : List Nat} {ea : Option Addr} {xs : List (Int × Int)} (hO : OwnB w R B) (hBl : B.length = 1024) (hic : 1024 ≤ ic) (hb : ∀ y ∈ B, y < 256) (h : SlE w ea xs) (hm : xs.length = m) (hm5 : m ≤ 1000) (hx : ∀ x ∈ xs, 0 ≤ x.1 ∧ 1 ≤ x.2 ∧ x.1 + x.2 ≤ 1024) :
    Calls Try.prog 13 #[.slice (some ⟨R, 0, none⟩) 1024 ic, .slice ea m c] w fun e w' => ∃ v, e = .returned v ∧ RowR w' v (recL B xs) ∧ Below w.heap.size w w' := by
  obtain ⟨i0, hi0, hz0, hz1, hz2⟩ := infoRec
  have HO := hide hO
  have HBL := hide hBl
  have HB8 := hide hb
  have HH := hide h
  have HM := hide hm
  have HX := hide hx
  clear hO hBl hb h hm hx
  go_enter Try.func13, Try.ntmps13
  go_wp2
  go_loopw [5, 6] (fun lv iv wr => ∃ (i : Nat) (Cs : List Nat), iv = .int .i64 (i : Int) ∧ i ≤ m ∧ OldR wr w.heap.size lv B (xs.take i) Cs ∧ Below w.heap.size w wr) (fun _ iv _ => (m - (intOf iv).toNat))
  case atStart => exact ⟨0, [], rfl, Nat.zero_le _, ⟨rfl, ⟨rfl, .inl ⟨rfl, rfl⟩⟩, fun i x C h1 => by simp at h1⟩, Below.refl _ _⟩
  case round =>
    obtain ⟨i, Cs, rfl, him, hrow, hBw⟩ := hrel
    by_cases hlt : i < m
    · have iI : (i : Int) < (m : Int) := by omega
      obtain ⟨xx, hxx⟩ : ∃ x, xs[i]? = some x := ⟨_, List.getElem?_eq_getElem (by rw [HM.out]; exact hlt)⟩
      have hts : xs.take (i + 1) = xs.take i ++ [xx] := by rw [List.take_add_one, hxx]; rfl
      obtain ⟨b1, b2, b3⟩ := HX.out xx (List.mem_of_getElem? hxx)
      obtain ⟨x, y⟩ := xx
      simp only at b1 b2 b3
      obtain ⟨xn, rfl⟩ : ∃ xn : Nat, x = (xn : Int) := ⟨x.toNat, by omega⟩
      obtain ⟨yn, rfl⟩ : ∃ yn : Nat, y = (yn : Int) := ⟨y.toNat, by omega⟩
      have eold : oldOf B ((xn : Int), (yn : Int)) = (B.drop xn).take yn := rfl
      have hol : ((B.drop xn).take yn).length = yn := by rw [List.length_take, List.length_drop, HBL.out]; omega
      obtain ⟨g, o, cc, rfl, hg, hcc⟩ : ∃ g o cc, ea = some ⟨g, o, none⟩ ∧ w.heap[g]? = some (.cells cc 58 (0, 0)) ∧ ∀ (i : Nat) (x l : Int), xs[i]? = some (x, l) → cc[o + i * 2]? = some (.int .i64 x) ∧ cc[o + i * 2 + 1]? = some (.int .i64 l) := by
        rcases HH.out.2 with e | ⟨g, o, cc, h1, h2, h3⟩
        · rw [e] at hxx; simp at hxx
        · exact ⟨g, o, cc, h1, h2, h3⟩
      have hgr : wr.heap[g]? = some (.cells cc 58 (0, 0)) := (hBw.block g (lt_of_heap hg)).trans hg
      have hgl := lt_of_heap hgr
      have s0 : wr.drew.cell? ⟨g, o + i * 2, none⟩ = some (.int .i64 (xn : Int)) ∧ wr.drew.cell? ⟨g, o + i * 2 + 1, none⟩ = some (.int .i64 (yn : Int)) := ⟨(cell8 (w := wr.drew) hgr _).trans (hcc i _ _ hxx).1, (cell8 (w := wr.drew) hgr _).trans (hcc i _ _ hxx).2⟩
      have S0 := hide s0
      have HGR := hide hgr
      have IX := hide (fun X => index_ext g o i m c hlt X)
      have SLc : Hid (∀ X, (Instr.sliceAt 33 (.slice (some ⟨R, 0, none⟩) 1024 ic) (some (.int .i64 (xn : Int))) (some (.int .i64 ((xn : Int) + (yn : Int)))) none).run Try.prog X = .ok (.slice (some ⟨R, xn, none⟩) yn (ic - xn)) X) := fun X => by have h := slice_mid R 0 xn yn 1024 ic (by omega) (by omega) hic (by omega) X; rwa [Nat.zero_add] at h
      have WM : Hid (IntKind.i64.wrap ((xn : Int) + (yn : Int)) = (xn : Int) + (yn : Int)) := by show IntKind.i64.wrap _ = _; rw [IntKind.wrap_i64]; omega
      have hOr : OwnB wr R B := HO.out.below hBw HO.out.lt
      have hsw : Sl wr.drew (some ⟨R, xn, none⟩) ((B.drop xn).take yn) := .inr ⟨R, xn, rfl, lt_of_heap hOr, fun q z hz => by
        rw [List.getElem?_take] at hz
        split at hz
        · rw [List.getElem?_drop] at hz
          exact ⟨hOr.cell _ _ hz, HB8.out z (List.mem_of_getElem? hz)⟩
        · cases hz⟩
      have kc := copyBytes_any (some ⟨R, xn, none⟩) (ic - xn) ((B.drop xn).take yn) wr.drew hsw (by rw [hol]; omega)
      rw [hol] at kc
      generalize (B.drop xn).take yn = old at *
      have KC := hide kc
      have HROW := hide hrow
      have HBW := hide hBw
      have HTS := hide hts
      have HOL := hide hol
      have HEO := hide eold
      have hil : (xs.take i).length = i := by rw [List.length_take, HM.out]; omega
      have HIL := hide hil
      have hCl := hrow.len
      rw [hil] at hCl
      clear kc hrow hBw hts hol eold hsw hOr hgr hcc hxx s0 hil hg
      go_wp2_with (fail)
      try go_frame
      refine wp_region_held_drew (S := fun Y => Y.cell? ⟨g, o + i * 2, none⟩ = some (.int .i64 (xn : Int)) ∧ Y.cell? ⟨g, o + i * 2 + 1, none⟩ = some (.int .i64 (yn : Int))) (by kernel_rfl) S0.out (fun hS => ?_)
      refine wpAnyH_take (i := 0) (v := u5) rfl (by kernel_rfl) (by kernel_rfl) (by kernel_rfl) (fun _ _ _ h => h) (Or.inl ⟨by kernel_rfl, fun w' hw => by (go_simp)⟩) hS ?_
      refine wpAnyH_take (i := 1) (v := (.slice (some ⟨g, o, none⟩) m c)) rfl (by kernel_rfl) (by kernel_rfl) (by kernel_rfl) (fun _ _ _ h => h) (Or.inl ⟨by kernel_rfl, fun w' hw => by (go_simp)⟩) hS ?_
      refine wpAnyH_take (i := 2) (v := (.int .i64 (i : Int))) rfl (by kernel_rfl) (by kernel_rfl) (by kernel_rfl) (fun _ _ _ h => h) (Or.inl ⟨by kernel_rfl, fun w' hw => by (go_simp)⟩) hS ?_
      refine wpAnyH_take (i := 3) (v := (.pointer (some ⟨g, o + i * 2, none⟩))) rfl (by kernel_rfl) (by kernel_rfl) (by kernel_rfl) (fun _ _ _ h => h) (Or.inl ⟨by kernel_rfl, fun w' hw => by (have e := IX.out w'; go_simp)⟩) hS ?_
      refine wpAnyH_take (i := 4) (v := (.pointer (some ⟨g, o + i * 2, none⟩))) rfl (by kernel_rfl) (by kernel_rfl) (by kernel_rfl) (fun _ _ _ h => h) (Or.inl ⟨by kernel_rfl, fun w' hw => by (go_simp)⟩) hS ?_
      refine wpAnyH_take (i := 5) (v := (.int .i64 (xn : Int))) rfl (by kernel_rfl) (by kernel_rfl) (by kernel_rfl) (fun _ _ _ h => h) (Or.inl ⟨by kernel_rfl, fun w' hw => by (have e0 := hw.1; go_simp)⟩) hS ?_
      refine wpAnyH_take (i := 6) (v := (.slice (some ⟨R, 0, none⟩) 1024 ic)) rfl (by kernel_rfl) (by kernel_rfl) (by kernel_rfl) (fun _ _ _ h => h) (Or.inl ⟨by kernel_rfl, fun w' hw => by (go_simp)⟩) hS ?_
      refine wpAnyH_take (i := 7) (v := (.slice (some ⟨g, o, none⟩) m c)) rfl (by kernel_rfl) (by kernel_rfl) (by kernel_rfl) (fun _ _ _ h => h) (Or.inl ⟨by kernel_rfl, fun w' hw => by (go_simp)⟩) hS ?_
      refine wpAnyH_take (i := 8) (v := (.int .i64 (i : Int))) rfl (by kernel_rfl) (by kernel_rfl) (by kernel_rfl) (fun _ _ _ h => h) (Or.inl ⟨by kernel_rfl, fun w' hw => by (go_simp)⟩) hS ?_
      refine wpAnyH_take (i := 9) (v := (.pointer (some ⟨g, o + i * 2, none⟩))) rfl (by kernel_rfl) (by kernel_rfl) (by kernel_rfl) (fun _ _ _ h => h) (Or.inl ⟨by kernel_rfl, fun w' hw => by (have e := IX.out w'; go_simp)⟩) hS ?_
      refine wpAnyH_take (i := 10) (v := (.pointer (some ⟨g, o + i * 2, none⟩))) rfl (by kernel_rfl) (by kernel_rfl) (by kernel_rfl) (fun _ _ _ h => h) (Or.inl ⟨by kernel_rfl, fun w' hw => by (go_simp)⟩) hS ?_
      refine wpAnyH_take (i := 11) (v := (.int .i64 (xn : Int))) rfl (by kernel_rfl) (by kernel_rfl) (by kernel_rfl) (fun _ _ _ h => h) (Or.inl ⟨by kernel_rfl, fun w' hw => by (have e0 := hw.1; go_simp)⟩) hS ?_
      refine wpAnyH_take (i := 12) (v := (.slice (some ⟨g, o, none⟩) m c)) rfl (by kernel_rfl) (by kernel_rfl) (by kernel_rfl) (fun _ _ _ h => h) (Or.inl ⟨by kernel_rfl, fun w' hw => by (go_simp)⟩) hS ?_
      refine wpAnyH_take (i := 13) (v := (.int .i64 (i : Int))) rfl (by kernel_rfl) (by kernel_rfl) (by kernel_rfl) (fun _ _ _ h => h) (Or.inl ⟨by kernel_rfl, fun w' hw => by (go_simp)⟩) hS ?_
      refine wpAnyH_take (i := 14) (v := (.pointer (some ⟨g, o + i * 2, none⟩))) rfl (by kernel_rfl) (by kernel_rfl) (by kernel_rfl) (fun _ _ _ h => h) (Or.inl ⟨by kernel_rfl, fun w' hw => by (have e := IX.out w'; go_simp)⟩) hS ?_
      refine wpAnyH_take (i := 15) (v := (.pointer (some ⟨g, o + i * 2, none⟩))) rfl (by kernel_rfl) (by kernel_rfl) (by kernel_rfl) (fun _ _ _ h => h) (Or.inl ⟨by kernel_rfl, fun w' hw => by (go_simp)⟩) hS ?_
      refine wpAnyH_take (i := 16) (v := (.int .i64 (xn : Int))) rfl (by kernel_rfl) (by kernel_rfl) (by kernel_rfl) (fun _ _ _ h => h) (Or.inl ⟨by kernel_rfl, fun w' hw => by (have e0 := hw.1; go_simp)⟩) hS ?_
      refine wpAnyH_take (i := 17) (v := (.slice (some ⟨g, o, none⟩) m c)) rfl (by kernel_rfl) (by kernel_rfl) (by kernel_rfl) (fun _ _ _ h => h) (Or.inl ⟨by kernel_rfl, fun w' hw => by (go_simp)⟩) hS ?_
      refine wpAnyH_take (i := 18) (v := (.int .i64 (i : Int))) rfl (by kernel_rfl) (by kernel_rfl) (by kernel_rfl) (fun _ _ _ h => h) (Or.inl ⟨by kernel_rfl, fun w' hw => by (go_simp)⟩) hS ?_
      refine wpAnyH_take (i := 19) (v := (.pointer (some ⟨g, o + i * 2, none⟩))) rfl (by kernel_rfl) (by kernel_rfl) (by kernel_rfl) (fun _ _ _ h => h) (Or.inl ⟨by kernel_rfl, fun w' hw => by (have e := IX.out w'; go_simp)⟩) hS ?_
      refine wpAnyH_take (i := 20) (v := (.pointer (some ⟨g, o + i * 2 + 1, none⟩))) rfl (by kernel_rfl) (by kernel_rfl) (by kernel_rfl) (fun _ _ _ h => h) (Or.inl ⟨by kernel_rfl, fun w' hw => by (go_simp)⟩) hS ?_
      refine wpAnyH_take (i := 21) (v := (.int .i64 (yn : Int))) rfl (by kernel_rfl) (by kernel_rfl) (by kernel_rfl) (fun _ _ _ h => h) (Or.inl ⟨by kernel_rfl, fun w' hw => by (have e0 := hw.2; go_simp)⟩) hS ?_
      refine wpAnyH_take (i := 22) (v := (.int .i64 ((xn : Int) + (yn : Int)))) rfl (by kernel_rfl) (by kernel_rfl) (by kernel_rfl) (fun _ _ _ h => h) (Or.inl ⟨by kernel_rfl, fun w' hw => by (have wm := WM.out; go_simp)⟩) hS ?_
      refine wpAnyH_take (i := 23) (v := (.slice (some ⟨R, xn, none⟩) yn (ic - xn))) rfl (by kernel_rfl) (by kernel_rfl) (by kernel_rfl) (fun _ _ _ h => h) (Or.inl ⟨by kernel_rfl, fun w' hw => by (have e := SLc.out w'; go_simp)⟩) hS ?_
      refine wpAnyH_goS (i := 24) (by kernel_rfl) rfl (by kernel_rfl) (fun K hK => ?_)
      go_wp2_with (go_at_call 37; refine (KC.out).mono ?_; rintro e W1 ⟨rfl, ho1, hb1⟩; replace ho1 : OwnB W1 wr.heap.size old := ho1; have HO1 := hide ho1; have HB1 := hide (bseq (Below.refl _ wr).drew hb1 : Below wr.heap.size wr W1); clear ho1 hb1)
      have hS1 := (show W1.cell? ⟨g, o + i * 2, none⟩ = some (.int .i64 (xn : Int)) ∧ W1.cell? ⟨g, o + i * 2 + 1, none⟩ = some (.int .i64 (yn : Int)) from ⟨(HB1.out.cell (p := ⟨g, o + i * 2, none⟩) hgl).trans S0.out.1, (HB1.out.cell (p := ⟨g, o + i * 2 + 1, none⟩) hgl).trans S0.out.2⟩)
      refine hK.out _ _ hS1 ?_
      clear hK K
      refine wpAnyH_take (i := 25) (v := (.agg #[.int .i64 (xn : Int), .slice (some ⟨wr.heap.size, 0, none⟩) yn yn])) rfl (by kernel_rfl) (by kernel_rfl) (by kernel_rfl) (fun _ _ _ h => h) (Or.inl ⟨by kernel_rfl, fun w' hw => by (go_simp)⟩) hS1 ?_
      have HGC0 := hide ((HB1.out.block g hgl).trans HGR.out)
      have hgl1 : g < W1.heap.size := Nat.lt_of_lt_of_le hgl HB1.out.size
      have hA1 : Below W1.heap.size W1 (W1.alloc (.cells #[.int .i64 (xn : Int), .slice (some ⟨wr.heap.size, 0, none⟩) yn yn] 63)) := (Below.refl _ W1).alloc (Nat.le_refl _) _
      refine wpAnyH_goS (i := 26) (by kernel_rfl) rfl (by kernel_rfl) (fun K hK => ?_)
      go_wp2_with (fail)
      have hS2 : (W1.alloc (.cells #[.int .i64 (xn : Int), .slice (some ⟨wr.heap.size, 0, none⟩) yn yn] 63)).cell? ⟨g, o + i * 2, none⟩ = some (.int .i64 (xn : Int)) ∧ (W1.alloc (.cells #[.int .i64 (xn : Int), .slice (some ⟨wr.heap.size, 0, none⟩) yn yn] 63)).cell? ⟨g, o + i * 2 + 1, none⟩ = some (.int .i64 (yn : Int)) := ⟨(hA1.cell (p := ⟨g, o + i * 2, none⟩) hgl1).trans hS1.1, (hA1.cell (p := ⟨g, o + i * 2 + 1, none⟩) hgl1).trans hS1.2⟩
      refine hK.out _ _ hS2 ?_
      clear hK K
      have HB2 := hide (bseq HB1.out hA1)
      have HGC := hide ((hA1.block g hgl1).trans HGC0.out)
      have hrow2 := own_below HROW.out.row HB2.out
      rw [HIL.out] at hrow2
      have HR2 := hide hrow2
      have HBW2 := hide (bseq HBW.out HB2.out)
      have hsz2 : w.heap.size ≤ (W1.alloc (.cells #[.int .i64 (xn : Int), .slice (some ⟨wr.heap.size, 0, none⟩) yn yn] 63)).heap.size := HBW2.out.size
      have HOA := hide (HO1.out.below hA1 HO1.out.lt)
      clear hrow2 hA1
      refine wpAnyH_goS (i := 27) (by kernel_rfl) rfl (by kernel_rfl) (fun K hK => ?_)
      refine wp_append_at (.tmp 13) (.tmp 39) 38 (by kernel_rfl) w.heap.size 63 i0 (.agg #[.int .i64 0, .slice none 0 0]) 2 32 Try.underlying38 hi0 hz0 hz1 hz2 rfl (by decide) u5 i (((xs.take i).zip Cs).flatMap (fun p => oldC B p.1 p.2)) (by kernel_rfl) HR2.out ⟨W1.heap.size, 0, none⟩ 1 1 [.int .i64 (xn : Int), .slice (some ⟨wr.heap.size, 0, none⟩) yn yn] (by kernel_rfl) rfl (cell_twoU W1 _ _ _) (by simp [Value.oneCell']) (by unfold maxLen; omega) (by omega) hsz2 ?_
      intro v1 x1 ho3 hg3 _ _
      have HO3 := hide ho3
      have HG3 := hide hg3
      clear ho3 hg3
      have hbx := bel_of_grownT HBW2.out HR2.out HG3.out
      have hkeep : ∀ (k : Nat) (cs : Array Value) (t : TypeId) (f : Nat × Nat), (W1.alloc (.cells #[.int .i64 (xn : Int), .slice (some ⟨wr.heap.size, 0, none⟩) yn yn] 63)).heap[k]? = some (.cells cs t f) → t ≠ 63 → x1.heap[k]? = some (.cells cs t f) := fun k cs t f hk ht => by
        refine (HG3.out.block k (lt_of_heap hk) (fun e => ?_)).trans hk
        obtain ⟨c', hc'⟩ := own_type HR2.out e.symm
        exact ne_ty hk hc' ht rfl
      have hge := hS2
      have hS3 : x1.cell? ⟨g, o + i * 2, none⟩ = some (.int .i64 (xn : Int)) ∧ x1.cell? ⟨g, o + i * 2 + 1, none⟩ = some (.int .i64 (yn : Int)) := by
        have hgx : x1.heap[g]? = (W1.alloc (.cells #[.int .i64 (xn : Int), .slice (some ⟨wr.heap.size, 0, none⟩) yn yn] 63)).heap[g]? := by
          have hga := HGC.out
          rw [hkeep g _ _ _ hga (by decide), hga]
        exact ⟨(World.cell?_of_block (a := ⟨g, o + i * 2, none⟩) hgx).trans hge.1, (World.cell?_of_block (a := ⟨g, o + i * 2 + 1, none⟩) hgx).trans hge.2⟩
      refine hK.out _ _ hS3 ?_
      clear hK K
      have yr : OldR x1 w.heap.size v1 B (xs.take (i + 1)) (Cs ++ [wr.heap.size]) := by
        rw [HTS.out]
        refine ⟨by rw [List.length_append, List.length_append, hCl, HIL.out]; rfl, ?_, ?_⟩
        · have h7 := HO3.out
          rw [List.length_append, HIL.out, List.zip_append (by rw [hCl, HIL.out]), List.flatMap_append]
          have e9 : (([((xn : Int), (yn : Int))] : List (Int × Int)).zip [wr.heap.size]).flatMap (fun p => oldC B p.1 p.2) = [.int .i64 (xn : Int), .slice (some ⟨wr.heap.size, 0, none⟩) yn yn] := by
            show oldC B ((xn : Int), (yn : Int)) wr.heap.size ++ [] = _
            unfold oldC
            rw [HEO.out, HOL.out]
            rfl
          rw [e9]
          exact h7
        · intro k xk C hk hC
          by_cases hki : k < i
          · rw [List.getElem?_append_left (by rw [HIL.out]; exact hki)] at hk
            rw [List.getElem?_append_left (by rw [hCl]; exact hki)] at hC
            have h8 := HROW.out.own k xk C hk hC
            exact hkeep C _ _ _ ((HB2.out.block C h8.lt).trans h8) (by decide)
          · have hk2 : k = i := by
              have := (List.getElem?_eq_some_iff.1 hC).1
              rw [List.length_append, hCl] at this
              simp at this
              omega
            subst hk2
            rw [List.getElem?_append_right (by rw [HIL.out]; exact Nat.le_refl _), HIL.out, Nat.sub_self] at hk
            rw [List.getElem?_append_right (by rw [hCl]; exact Nat.le_refl _), hCl, Nat.sub_self] at hC
            simp at hk hC
            subst hk hC
            rw [HEO.out]
            exact hkeep _ _ _ _ HOA.out (by decide)
      have YR := hide yr
      have YB := hide hbx
      clear yr hbx hkeep hge
      refine wpAnyH_take (i := 28) (v := v1) rfl (by kernel_rfl) (by kernel_rfl) (by kernel_rfl) (fun _ _ _ h => h) (Or.inl ⟨by kernel_rfl, fun w' hw => by (go_simp)⟩) hS3 ?_
      refine wpAnyH_done (by kernel_rfl) ?_ _
      simp only [Act.put, List.getElem_toArray, List.getElem_cons_zero, List.getElem_cons_succ, List.setIfInBounds_toArray, List.set_cons_zero, List.set_cons_succ]
      go_wp2_with (fail)
      go_roundw
      case rel => exact ⟨i + 1, Cs ++ [wr.heap.size], int_congrP (by omega), by omega, YR.out, YB.out⟩
      case measure => simp [intOf]; omega
    · have iI : ¬ (i : Int) < (m : Int) := by omega
      have e : xs.take i = xs := List.take_of_length_le (by rw [HM.out]; omega)
      rw [e] at hrow
      have hR := hrow.rowR HB8.out (fun x hx => (HX.out x hx).1)
      go_wp2_with (fail)
      go_ret
      exact ⟨_, rfl, hR, hBw⟩
end Go.Proofs.Ytadmekikdaocoaa
namespace Go.Proofs.Ytadmekikdaocoaa
open Go.RowKit Go.Shelf
set_option linter.unusedVariables false
set_option maxRecDepth 100000

theorem slice_ext (g e n cap : Nat) (he : e ≤ n) (hn : n ≤ cap) (hn1 : 1 ≤ n) (hsm : n ≤ 4194304) (w : World) : (Instr.sliceAt 22 (.slice (some ⟨g, 0, none⟩) n cap) none (some (.int .i64 (e : Int))) none).run Try.prog w = .ok (.slice (some ⟨g, 0, none⟩) e cap) w := by
  obtain ⟨it, h1, h2⟩ := info_of (t := 58) (n := 2) (by kernel_rfl)
  have hu : Try.prog.underlying 22 = some (.slice 58) := by kernel_rfl
  have c1 : (e : Int) ≤ (cap : Int) := by omega
  have e3 : ¬ cap = 0 := by omega
  simp [Instr.sliceAt, Instr.slice, Sem.run_bind, run_underlying hu, Instr.sliceBounds, Instr.sliceBound, asIntOf, sizeOf, typeInfo, h1, Addr.add_mid, e3]
  intro hc
  omega
/-- What is laid behind. -/
def moreE (i : Nat) : List (Int × Int) := (List.range i).map (fun (j : Nat) => ((64 : Int), 1 + (j : Int)))
theorem moreE_succ (i : Nat) : moreE (i + 1) = moreE i ++ [(64, 1 + (i : Int))] := by
  unfold moreE
  rw [List.range_succ]
  simp
theorem exC_app (xs ys : List (Int × Int)) : exC (xs ++ ys) = exC xs ++ exC ys := by simp [exC]
theorem exC_len (xs : List (Int × Int)) : (exC xs).length = xs.length * 2 := by
  induction xs with
  | nil => rfl
  | cons x t ih =>
    have e : exC (x :: t) = .int .i64 x.1 :: .int .i64 x.2 :: exC t := rfl
    rw [e, List.length_cons, List.length_cons, ih, List.length_cons]
    omega
theorem exC_one (xs : List (Int × Int)) : ∀ u ∈ exC xs, u.oneCell' = true := by
  intro u hu
  unfold exC at hu
  obtain ⟨x, _, h⟩ := List.mem_flatMap.1 hu
  simp at h
  rcases h with rfl | rfl <;> rfl
set_option maxHeartbeats 2000000 in
theorem uext_any {w : World} {base k : Nat} {v : Value} {xs : List (Int × Int)} (h : w.ownsRow base 58 2 v k (exC xs)) (hk : xs.length = k) (hk5 : k ≤ 1000) (hb : ∀ x ∈ xs, (-9223372036854775808 ≤ x.1 ∧ x.1 ≤ 9223372036854775807) ∧ (-9223372036854775808 ≤ x.2 ∧ x.2 ≤ 9223372036854775807)) :
    Calls Try.prog 10 #[v] w fun e w' => ∃ v', e = .returned v' ∧ ∃ g cp, v' = .slice (some ⟨g, 0, none⟩) k cp ∧ SlE w' (some ⟨g, 0, none⟩) xs ∧ Below w.heap.size w w' := by
  obtain ⟨i0, hi0, hz0, hz1, hz2⟩ := infoExt
  have HB := hide hb
  have HK := hide hk
  have rest : ∀ (W : World) (u : Value), W.ownsRow w.heap.size 58 2 u k (exC xs) → Below w.heap.size w W → W.ownsRow w.heap.size 58 2 u (k + 0) (exC (xs ++ moreE 0)) ∧ Below w.heap.size w W := fun W u h1 h2 => ⟨by rw [show moreE 0 = [] from rfl, List.append_nil]; exact h1, h2⟩
  have REST := hide rest
  rcases h.2 with ⟨rfl, rfl⟩ | ⟨g0, cp0, cur, rfl, q1, q2, q3, q4, q5, q6⟩
  · obtain rfl : xs = [] := List.length_eq_zero_iff.1 hk
    clear h rest hb hk
    go_enter Try.func10, Try.ntmps10
    go_wp2_with (at_builtin; refine wpList_append_own_none rfl _ _ 22 rfl w.heap.size 58 i0 2 Try.underlying22 hi0 (.slice none 0 0) 0 [] rfl (World.ownsRow_nil _ _ _ _) rfl ?_)
    have hst := REST.out w (.slice none 0 0) (World.ownsRow_nil _ _ _ _) (Below.refl _ _)
    have HST := hide hst
    clear hst
    go_wp2
    go_loopw [3, 4] (fun lv iv wr => ∃ i : Nat, iv = .int .i64 (i : Int) ∧ i ≤ 5 ∧ wr.ownsRow w.heap.size 58 2 lv (0 + i) (exC ([] ++ moreE i)) ∧ Below w.heap.size w wr) (fun _ iv _ => (5 - (intOf iv).toNat))
    case atStart => exact ⟨0, rfl, Nat.zero_le _, HST.out.1, HST.out.2⟩
    case round =>
      obtain ⟨i, rfl, hi5, hr, hB⟩ := hrel
      by_cases hlt : i < 5
      · have iI : (i : Int) < 5 := by omega
        have hw : IntKind.i64.wrap (1 + (i : Int)) = 1 + (i : Int) := by rw [IntKind.wrap_i64]; omega
        have hms := moreE_succ i
        have hA1 : Below wr.heap.size wr (wr.alloc (.cells #[.int .i64 64, .int .i64 (1 + (i : Int))] 58)) := (Below.refl _ wr).alloc (Nat.le_refl _) _
        have HO2 := hide (own_below hr hA1)
        have HB2 := hide (bseq hB hA1)
        have hsz2 : w.heap.size ≤ (wr.alloc (.cells #[.int .i64 64, .int .i64 (1 + (i : Int))] 58)).heap.size := HB2.out.size
        have HMS := hide hms
        clear hr hB hA1 hms
        go_wp2_with (at_builtin; refine wpList_append_own_at _ rfl _ _ 22 rfl w.heap.size 58 i0 (.agg #[.int .i64 0, .int .i64 0]) 2 16 Try.underlying22 hi0 hz0 hz1 hz2 rfl (by decide) u3 (0 + i) (exC ([] ++ moreE i)) rfl HO2.out ⟨wr.heap.size, 0, none⟩ 1 1 [.int .i64 64, .int .i64 (1 + (i : Int))] rfl rfl (cell_twoU wr _ _ _) (by simp [Value.oneCell']) (by unfold maxLen; omega) (by omega) hsz2 ?_; intro v3 x3 ho3 hg3 hnn hat; clear hnn hat; have HO3 := hide ho3; have HB3 := hide (bel_of_grownT HB2.out HO2.out hg3); clear ho3 hg3)
        first | go_roundw | skip
        all_goals first
          | exact ⟨⟨i + 1, int_congrP (by omega), by omega, by rw [HMS.out, ← List.append_assoc, exC_snoc]; exact HO3.out, HB3.out⟩, by simp [intOf]; omega⟩
          | exact ⟨i + 1, int_congrP (by omega), by omega, by rw [HMS.out, ← List.append_assoc, exC_snoc]; exact HO3.out, HB3.out⟩
          | (simp [intOf]; omega)
      · obtain rfl : i = 5 := by omega
        have iI : ¬ (5 : Int) < 5 := by omega
        rcases hr.2 with ⟨_, e⟩ | ⟨gg, cp, cur2, rfl, r1, r2, r3, r4, r5, r6⟩
        · omega
        · have sl := slice_ext gg 0 (0 + 5) cp (by omega) r3 (by omega) (by omega) wr
          have hse : SlE wr (some ⟨gg, 0, none⟩) [] := by
            refine ⟨HB.out, .inr ⟨gg, 0, cur2, rfl, r2, fun j x l hj => ?_⟩⟩
            have hjl : j < ([] : List (Int × Int)).length := (List.getElem?_eq_some_iff.1 hj).1
            obtain ⟨e1, e2⟩ := exC_get ([] ++ moreE 5) j x l (by rw [List.getElem?_append_left hjl]; exact hj)
            have hkk := HK.out
            rw [← r6, List.getElem?_take, if_pos (by omega), Array.getElem?_toList] at e1 e2
            rw [Nat.zero_add]
            exact ⟨e1, e2⟩
          have HSE := hide hse
          have HBB := hide hB
          clear hr hse hB r1 r2 r3 r4 r5 r6
          go_wp2
          go_ret
          exact ⟨_, rfl, gg, ⟨cp, rfl⟩, HSE.out, HBB.out⟩
  · have hnews : ∀ j u, (exC xs)[j]? = some u → w.cell? ((⟨g0, 0, none⟩ : Addr).add j) = some u := fun j u hu => by
      rw [Addr.add_mid, Nat.zero_add]
      rw [← q6, List.getElem?_take] at hu
      split at hu
      · rw [Array.getElem?_toList] at hu
        exact (cell8 q2 j).trans hu
      · cases hu
    have HNW := hide hnews
    have hl2 : (exC xs).length = k * 2 := by rw [exC_len, hk]
    have h1c := exC_one xs
    clear h rest hb hk q1 q3 q4 q5 q6 hnews
    go_enter Try.func10, Try.ntmps10
    go_wp2_with (at_builtin; refine wpList_append_own_at _ rfl _ _ 22 rfl w.heap.size 58 i0 (.agg #[.int .i64 0, .int .i64 0]) 2 16 Try.underlying22 hi0 hz0 hz1 hz2 rfl (by decide) (.slice none 0 0) 0 [] rfl (World.ownsRow_nil _ _ _ _) ⟨g0, 0, none⟩ k cp0 (exC xs) rfl hl2 HNW.out h1c (by unfold maxLen; omega) (by omega) (Nat.le_refl _) ?_; intro v1 x1 ho1 hg1 hnn hat; clear hnn hat; rw [Nat.zero_add, List.nil_append] at ho1; have HO1 := hide ho1; have HG1 := hide hg1; clear ho1 hg1)
    have hst := REST.out x1 v1 HO1.out (bel_of_grownT (Below.refl _ w) (World.ownsRow_nil w w.heap.size 58 2) HG1.out)
    have HST := hide hst
    clear hst
    go_wp2
    go_loopw [3, 4] (fun lv iv wr => ∃ i : Nat, iv = .int .i64 (i : Int) ∧ i ≤ 5 ∧ wr.ownsRow w.heap.size 58 2 lv (k + i) (exC (xs ++ moreE i)) ∧ Below w.heap.size w wr) (fun _ iv _ => (5 - (intOf iv).toNat))
    case atStart => exact ⟨0, rfl, Nat.zero_le _, HST.out.1, HST.out.2⟩
    case round =>
      obtain ⟨i, rfl, hi5, hr, hB⟩ := hrel
      by_cases hlt : i < 5
      · have iI : (i : Int) < 5 := by omega
        have hw : IntKind.i64.wrap (1 + (i : Int)) = 1 + (i : Int) := by rw [IntKind.wrap_i64]; omega
        have hms := moreE_succ i
        have hA1 : Below wr.heap.size wr (wr.alloc (.cells #[.int .i64 64, .int .i64 (1 + (i : Int))] 58)) := (Below.refl _ wr).alloc (Nat.le_refl _) _
        have HO2 := hide (own_below hr hA1)
        have HB2 := hide (bseq hB hA1)
        have hsz2 : w.heap.size ≤ (wr.alloc (.cells #[.int .i64 64, .int .i64 (1 + (i : Int))] 58)).heap.size := HB2.out.size
        have HMS := hide hms
        clear hr hB hA1 hms
        go_wp2_with (at_builtin; refine wpList_append_own_at _ rfl _ _ 22 rfl w.heap.size 58 i0 (.agg #[.int .i64 0, .int .i64 0]) 2 16 Try.underlying22 hi0 hz0 hz1 hz2 rfl (by decide) u3 (k + i) (exC (xs ++ moreE i)) rfl HO2.out ⟨wr.heap.size, 0, none⟩ 1 1 [.int .i64 64, .int .i64 (1 + (i : Int))] rfl rfl (cell_twoU wr _ _ _) (by simp [Value.oneCell']) (by unfold maxLen; omega) (by omega) hsz2 ?_; intro v3 x3 ho3 hg3 hnn hat; clear hnn hat; have HO3 := hide ho3; have HB3 := hide (bel_of_grownT HB2.out HO2.out hg3); clear ho3 hg3)
        first | go_roundw | skip
        all_goals first
          | exact ⟨⟨i + 1, int_congrP (by omega), by omega, by rw [HMS.out, ← List.append_assoc, exC_snoc]; exact HO3.out, HB3.out⟩, by simp [intOf]; omega⟩
          | exact ⟨i + 1, int_congrP (by omega), by omega, by rw [HMS.out, ← List.append_assoc, exC_snoc]; exact HO3.out, HB3.out⟩
          | (simp [intOf]; omega)
      · obtain rfl : i = 5 := by omega
        have iI : ¬ (5 : Int) < 5 := by omega
        rcases hr.2 with ⟨_, e⟩ | ⟨gg, cp, cur2, rfl, r1, r2, r3, r4, r5, r6⟩
        · omega
        · have sl := slice_ext gg k (k + 5) cp (by omega) r3 (by omega) (by omega) wr
          have hse : SlE wr (some ⟨gg, 0, none⟩) xs := by
            refine ⟨HB.out, .inr ⟨gg, 0, cur2, rfl, r2, fun j x l hj => ?_⟩⟩
            have hjl : j < (xs : List (Int × Int)).length := (List.getElem?_eq_some_iff.1 hj).1
            obtain ⟨e1, e2⟩ := exC_get (xs ++ moreE 5) j x l (by rw [List.getElem?_append_left hjl]; exact hj)
            have hkk := HK.out
            rw [← r6, List.getElem?_take, if_pos (by omega), Array.getElem?_toList] at e1 e2
            rw [Nat.zero_add]
            exact ⟨e1, e2⟩
          have HSE := hide hse
          have HBB := hide hB
          clear hr hse hB r1 r2 r3 r4 r5 r6
          go_wp2
          go_ret
          exact ⟨_, rfl, gg, ⟨cp, rfl⟩, HSE.out, HBB.out⟩
end Go.Proofs.Ytadmekikdaocoaa
