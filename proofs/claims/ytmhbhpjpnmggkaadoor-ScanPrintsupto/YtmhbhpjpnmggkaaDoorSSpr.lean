/- Tokens with marked room behind them: spare, sameTokens, kept. -/
import Derived.Test.YtmhbhpjpnmggkaaDoorSWrk
namespace Go.Proofs.YtmhbhpjpnmggkaaDoor
open Go.RowKit Go.Shelf
set_option linter.unusedVariables false

def tcI (x : TkI) : List Value := [.int .i64 x.1, .int .i64 x.2.1, .string x.2.2.1, .int .i64 x.2.2.2]
theorem tcI_len (xs : List TkI) : (xs.flatMap tcI).length = xs.length * 4 := by
  induction xs with
  | nil => rfl
  | cons x xs ih => simp [List.flatMap_cons, ih, tcI]; omega
theorem flatI_get (ts : List TkI) (i j : Nat) (x : TkI) (hx : ts[i]? = some x) (hj : j < 4) : (ts.flatMap tcI)[i * 4 + j]? = (tcI x)[j]? := by
  induction ts generalizing i with
  | nil => simp at hx
  | cons y ys ih =>
    rw [List.flatMap_cons]
    cases i with
    | zero =>
      simp only [List.getElem?_cons_zero, Option.some.injEq] at hx
      subst hx
      rw [List.getElem?_append_left (by simp [tcI]; omega)]
      congr 1
      omega
    | succ i =>
      simp only [List.getElem?_cons_succ] at hx
      rw [List.getElem?_append_right (by simp [tcI]; omega), ← ih i hx]
      congr 1
      simp [tcI]
      omega
theorem flatI_snoc (xs : List TkI) (x : TkI) : (xs ++ [x]).flatMap tcI = xs.flatMap tcI ++ [.int .i64 x.1, .int .i64 x.2.1, .string x.2.2.1, .int .i64 x.2.2.2] := by
  rw [List.flatMap_append]; simp [tcI]
def RowI (W : World) (base : Nat) (v : Value) (ts : List TkI) : Prop := W.ownsRow base 46 4 v ts.length (ts.flatMap tcI)
theorem RowI.slk {W : World} {base : Nat} {v : Value} {ts : List TkI} (h : RowI W base v ts) (h0 : 0 < ts.length) : ∃ g cap, v = .slice (some ⟨g, 0, none⟩) ts.length cap ∧ ts.length ≤ cap ∧ SlK W (some ⟨g, 0, none⟩) ts := by
  rcases h.2 with ⟨h1, h2⟩ | ⟨g, cap, cur, hv, hg, hh, hnc, hcap, hs, hc⟩
  · omega
  · refine ⟨g, cap, hv, hnc, .inr ⟨g, 0, rfl, (Array.getElem?_eq_some_iff.1 hh).1, fun i y hy => ?_⟩⟩
    have hi : i < ts.length := (List.getElem?_eq_some_iff.1 hy).1
    have key : ∀ j (u : Value), j < 4 → (tcI y)[j]? = some u → W.cell? ⟨g, 0 + i * 4 + j, none⟩ = some u := by
      intro j u hj hu
      have h1 := flatI_get ts i j y hy hj
      rw [hu, ← hc, List.getElem?_take, if_pos (by omega)] at h1
      refine celS hh _ _ ?_
      rw [Nat.zero_add]
      simpa using h1
    exact ⟨key 0 _ (by omega) rfl, key 1 _ (by omega) rfl, key 2 _ (by omega) rfl, key 3 _ (by omega) rfl⟩
theorem rowI_start {W : World} {base : Nat} {v : Value} {xs : List TkI} (h : W.ownsRow base 46 4 v (0 + xs.length) ([] ++ xs.flatMap tcI)) : RowI W base v xs := by
  rw [Nat.zero_add, List.nil_append] at h
  exact h
theorem slk_news {W : World} {b off : Nat} {xs : List TkI} (h : SlK W (some ⟨b, off, none⟩) xs) : ∀ j u, (xs.flatMap tcI)[j]? = some u → W.cell? ((⟨b, off, none⟩ : Addr).add j) = some u := by
  intro j u hu
  have hj : j < (xs.flatMap tcI).length := (List.getElem?_eq_some_iff.1 hu).1
  rw [tcI_len] at hj
  have hi : j / 4 < xs.length := by omega
  obtain ⟨b1, off1, ha, c0, c1, c2, c3⟩ := tok_cells h (List.getElem?_eq_getElem hi)
  cases ha
  have hg := flatI_get xs (j / 4) (j % 4) _ (List.getElem?_eq_getElem hi) (by omega)
  rw [show j / 4 * 4 + j % 4 = j by omega, hu] at hg
  have ea : (⟨b, off, none⟩ : Addr).add j = ⟨b, off + j / 4 * 4 + j % 4, none⟩ := by
    rw [show off + j / 4 * 4 + j % 4 = off + j by omega]
    cases j <;> simp [Addr.add]
  rw [ea]
  have h4 : j % 4 = 0 ∨ j % 4 = 1 ∨ j % 4 = 2 ∨ j % 4 = 3 := by omega
  rcases h4 with e | e | e | e
  all_goals
    rw [e] at hg ⊢
    simp only [tcI, List.getElem?_cons_zero, List.getElem?_cons_succ, Option.some.injEq] at hg
    subst hg
    first | exact c0 | exact c1 | exact c2 | exact c3
theorem slk_news' {W : World} {ad : Addr} {xs : List TkI} (h : SlK W (some ad) xs) : ∀ j u, (xs.flatMap tcI)[j]? = some u → W.cell? (ad.add j) = some u := by
  rcases h with h | h
  · subst h
    intro j u hu
    simp at hu
  · obtain ⟨b, off, ha, hb, hc⟩ := h
    cases ha
    exact slk_news (.inr ⟨b, off, rfl, hb, hc⟩)
theorem tcI_one (xs : List TkI) : ∀ u ∈ xs.flatMap tcI, u.oneCell' = true := by
  intro u hu
  obtain ⟨x, _, hx⟩ := List.mem_flatMap.1 hu
  simp only [tcI, List.mem_cons, List.not_mem_nil, or_false] at hx
  rcases hx with rfl | rfl | rfl | rfl <;> rfl
/-- What stands in the room. -/
def marksI : Nat → List TkI
  | 0 => []
  | n + 1 => marksI n ++ [(9, 0, ⟨#[]⟩, (n : Int))]
theorem marks_len (n : Nat) : (marksI n).length = n := by
  induction n with
  | zero => rfl
  | succ n ih => simp [marksI, ih]
theorem marks_at (n : Nat) : ∀ i, i < n → (marksI n)[i]? = some (9, 0, ⟨#[]⟩, (i : Int)) := by
  induction n with
  | zero => intro i h; omega
  | succ n ih =>
    intro i h
    unfold marksI
    by_cases hi : i < n
    · rw [List.getElem?_append_left (by rw [marks_len]; exact hi)]; exact ih i hi
    · have : i = n := by omega
      subst this
      rw [List.getElem?_append_right (by rw [marks_len]; exact Nat.le_refl _), marks_len]
      simp
set_option maxRecDepth 100000 in
set_option maxHeartbeats 4000000 in
theorem spare_any (a : Option Addr) (cap : Nat) (xs : List TkI) (w : World) (hx : SlK w a xs) (hl : xs.length ≤ 1048576) (hn : a = none → xs.length = 0 ∧ cap = 0) :
    Calls Tryd.prog 10 #[.slice a xs.length cap] w fun e w' => ∃ g c, e = .returned (.slice (some ⟨g, 0, none⟩) xs.length c) ∧ xs.length + 5 ≤ c ∧ SlK w' (some ⟨g, 0, none⟩) (xs ++ marksI 5) ∧ Below w.heap.size w w' := by
  obtain ⟨i0, hi, hz0, hz1, hz2⟩ := info_parts Tryd.infoTk
  have HX := hide hx
  have hlI : (xs.length : Int) ≤ 1048576 := by omega
  clear hx
  cases a with
  | none =>
    obtain ⟨h0, hc0⟩ := hn rfl
    have hx0 : xs = [] := List.eq_nil_of_length_eq_zero h0
    subst hx0
    subst hc0
    have hr1 : RowI w w.heap.size (.slice none 0 0) [] := World.ownsRow_nil _ _ _ _
    have HR1 := hide hr1
    have HB1 := hide (Below.refl w.heap.size w)
    clear hr1
    go_enter Tryd.func10, Tryd.ntmps10
    go_wp2_with (fail)
    go_loopw [3, 4] (fun v i wr => ∃ j : Nat, i = .int .i64 (j : Int) ∧ j ≤ 5 ∧ RowI wr w.heap.size v ([] ++ marksI j) ∧ Below w.heap.size w wr) (fun _ i _ => 5 - (intOf i).toNat)
    case atStart => exact ⟨0, rfl, by omega, by rw [show marksI 0 = [] from rfl, List.append_nil]; exact HR1.out, HB1.out⟩
    case round =>
      clear HR1 HB1
      obtain ⟨j, rfl, hj, hrow, hB⟩ := hrel
      have HROW := hide hrow
      have HB := hide hB
      have hBw := hB.size
      have hml : ([] ++ marksI j).length = ([] : List TkI).length + j := by rw [List.length_append, marks_len]
      clear hrow hB
      by_cases hlt : j < 5
      · have hltI : (j : Int) < 5 := by omega
        go_wp2_with (at_builtin; refine wpList_append_own_at _ rfl _ _ 25 rfl w.heap.size 46 i0 (.agg #[.int .i64 0, .int .i64 0, .string ⟨#[]⟩, .int .i64 0]) 4 40 Tryd.underlying25 hi hz0 hz1 hz2 rfl (by decide) u3 ([] ++ marksI j).length (([] ++ marksI j).flatMap tcI) rfl (HROW.out.alloc _) ⟨wr.heap.size, 0, none⟩ 1 1 [.int .i64 9, .int .i64 0, .string ⟨#[]⟩, .int .i64 (j : Int)] rfl rfl (cell4_new _ _ _ _ _ _) (by simp [Value.oneCell']) (by unfold maxLen; omega) (by omega) (by simp; omega) ?_; intro v2 w2 hown2 hgrow2 _ _)
        go_roundw
        case rel =>
          refine ⟨j + 1, by go_num, by omega, ?_, ?_⟩
          · show RowI w2 w.heap.size v2 ([] ++ (marksI j ++ [(9, 0, ⟨#[]⟩, (j : Int))]))
            rw [← List.append_assoc]
            unfold RowI
            rw [flatI_snoc, List.length_append, List.length_singleton]
            exact hown2
          · exact (HB.out.alloc HB.out.size _).grown hgrow2 (by simp; omega) (fun k e => (HROW.out.lt k e).1)
        case measure => simp [intOf]; omega
      · have hltI : (5 : Int) ≤ (j : Int) := by omega
        have hj5 : j = 5 := by omega
        subst hj5
        obtain ⟨g, c, hv, hnc, hsl⟩ := HROW.out.slk (by omega)
        rw [hml] at hv hnc
        have hncI : (([] : List TkI).length : Int) ≤ (c : Int) := by omega
        have HSL := hide hsl
        subst hv
        clear hsl
        go_wp2_with (fail)
        go_ret
        exact ⟨g, c, rfl, hnc, HSL.out, HB.out⟩
  | some ad =>
    go_enter Tryd.func10, Tryd.ntmps10
    go_wp2_with (at_builtin; refine wpList_append_own_at _ rfl _ _ 25 rfl w.heap.size 46 i0 (.agg #[.int .i64 0, .int .i64 0, .string ⟨#[]⟩, .int .i64 0]) 4 40 Tryd.underlying25 hi hz0 hz1 hz2 rfl (by decide) (.slice none 0 0) 0 [] rfl (World.ownsRow_nil _ _ _ _) ad xs.length cap (xs.flatMap tcI) rfl (tcI_len xs) (slk_news' HX.out) (tcI_one xs) (by unfold maxLen; omega) (by omega) (Nat.le_refl _) ?_; intro v1 w1 hown1 hgrow1 _ _; have HR1 := hide (rowI_start hown1); have HB1 := hide ((Below.refl w.heap.size w).grown hgrow1 (Nat.le_refl _) (fun k e => absurd e (by simp [Value.ownBlock]))); clear hown1 hgrow1)
    go_loopw [3, 4] (fun v i wr => ∃ j : Nat, i = .int .i64 (j : Int) ∧ j ≤ 5 ∧ RowI wr w.heap.size v (xs ++ marksI j) ∧ Below w.heap.size w wr) (fun _ i _ => 5 - (intOf i).toNat)
    case atStart => exact ⟨0, rfl, by omega, by rw [show marksI 0 = [] from rfl, List.append_nil]; exact HR1.out, HB1.out⟩
    case round =>
      clear HR1 HB1
      obtain ⟨j, rfl, hj, hrow, hB⟩ := hrel
      have HROW := hide hrow
      have HB := hide hB
      have hBw := hB.size
      have hml : (xs ++ marksI j).length = xs.length + j := by rw [List.length_append, marks_len]
      clear hrow hB
      by_cases hlt : j < 5
      · have hltI : (j : Int) < 5 := by omega
        go_wp2_with (at_builtin; refine wpList_append_own_at _ rfl _ _ 25 rfl w.heap.size 46 i0 (.agg #[.int .i64 0, .int .i64 0, .string ⟨#[]⟩, .int .i64 0]) 4 40 Tryd.underlying25 hi hz0 hz1 hz2 rfl (by decide) u3 (xs ++ marksI j).length ((xs ++ marksI j).flatMap tcI) rfl (HROW.out.alloc _) ⟨wr.heap.size, 0, none⟩ 1 1 [.int .i64 9, .int .i64 0, .string ⟨#[]⟩, .int .i64 (j : Int)] rfl rfl (cell4_new _ _ _ _ _ _) (by simp [Value.oneCell']) (by unfold maxLen; omega) (by omega) (by simp; omega) ?_; intro v2 w2 hown2 hgrow2 _ _)
        go_roundw
        case rel =>
          refine ⟨j + 1, by go_num, by omega, ?_, ?_⟩
          · show RowI w2 w.heap.size v2 (xs ++ (marksI j ++ [(9, 0, ⟨#[]⟩, (j : Int))]))
            rw [← List.append_assoc]
            unfold RowI
            rw [flatI_snoc, List.length_append, List.length_singleton]
            exact hown2
          · exact (HB.out.alloc HB.out.size _).grown hgrow2 (by simp; omega) (fun k e => (HROW.out.lt k e).1)
        case measure => simp [intOf]; omega
      · have hltI : (5 : Int) ≤ (j : Int) := by omega
        have hj5 : j = 5 := by omega
        subst hj5
        obtain ⟨g, c, hv, hnc, hsl⟩ := HROW.out.slk (by omega)
        rw [hml] at hv hnc
        have hncI : (xs.length : Int) ≤ (c : Int) := by omega
        have HSL := hide hsl
        subst hv
        clear hsl
        go_wp2_with (fail)
        go_ret
        exact ⟨g, c, rfl, hnc, HSL.out, HB.out⟩
end Go.Proofs.YtmhbhpjpnmggkaaDoor
