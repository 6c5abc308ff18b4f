/- Plain Lean: a place of a text leads to a line and a column, these do not fall, and lead back. -/
import Derived.Test.YtegplcomhahpfaaLWhere
import Derived.Test.YtegplcomhahpfaaLPlace
import Derived.Test.YtegplcomhahpfaaKBk
namespace Go.Proofs.Ytegplcomhahpfaa
set_option linter.unusedVariables false

theorem Bd_step {l : List UInt8} {p : Nat} (h : St l p) : Bd l (p + cw (l.drop p)) := by
  have hlt := St_lt h
  have hc := cw_len (l.drop p) (drop_ne hlt)
  rw [List.length_drop] at hc
  have hp := cw_pos (l.drop p)
  by_cases he : p + cw (l.drop p) = l.length
  · exact .inr he
  · refine .inl ?_
    obtain ⟨j, hj, h1, h2⟩ := St_cover l (p + cw (l.drop p)) (by omega)
    by_cases e : j = p + cw (l.drop p)
    · rw [← e]; exact hj
    · rcases Nat.lt_trichotomy j p with h3 | h3 | h3
      · have := St_two h hj h3; omega
      · subst h3; omega
      · have := St_two hj h h3; omega
theorem byn_lt {l : List UInt8} {k : Nat} (h : by' l k ≠ 0) : k < l.length := by
  by_cases h2 : k < l.length
  · exact h2
  · exfalso; apply h; unfold by'; simp [List.getElem?_eq_none (Nat.le_of_not_lt h2)]
theorem Bd_end {l : List UInt8} {p : Nat} (h : endW l p ≠ 0) : Bd l (p + endW l p) := by
  have hs := endW_st h
  have e := endW_rune l p
  by_cases c1 : endR4 (rune (l.drop p)) = false
  · rw [if_pos c1] at e; exact absurd e h
  · rw [if_neg c1] at e
    by_cases c2 : rune (l.drop p) = 10 ∧ pv l p = 13
    · rw [if_pos c2] at e; exact absurd e h
    · rw [if_neg c2] at e
      by_cases c3 : rune (l.drop p) = 13 ∧ by' l (p + 1) = 10
      · rw [if_pos c3] at e
        rw [e]
        have h10 : p + 1 < l.length := byn_lt (by rw [c3.2]; decide)
        have hs1 : St l (p + 1) := St_of_not_co l (p + 1) h10 (fun h => by rw [c3.2] at h; have := h.1; omega)
        have hc : cw (l.drop (p + 1)) = 1 := (runes_end (l.drop (p + 1))).2.2.2.2.1 (by rw [by'_drop]; exact c3.2)
        have := Bd_step hs1
        rwa [hc] at this
      · rw [if_neg c3] at e; rw [e]; exact Bd_step hs
theorem Ls_to {l : List UInt8} {k : Nat} {x : Nat × Nat × Nat} (hx : (Ls l)[k]? = some x) : (k + 1 = (Ls l).length ∧ x.2.1 = l.length ∧ x.2.2 = 0) ∨ (k + 1 < (Ls l).length ∧ x.2.2 = endW l x.2.1 ∧ x.2.2 ≠ 0) := by
  have hlt := (List.getElem?_eq_some_iff.1 hx).1
  unfold Ls at hx hlt ⊢
  by_cases hk : k < (sofar l l.length).2.length
  · rw [List.getElem?_append_left hk] at hx
    have hm := (sofar_inv l l.length).2.2 x (List.mem_of_getElem? hx)
    exact .inr ⟨by simp; omega, hm.2.2.1, hm.2.2.2⟩
  · simp only [List.length_append, List.length_singleton] at hlt
    have hk2 : k = (sofar l l.length).2.length := by omega
    subst hk2
    rw [List.getElem?_append_right (Nat.le_refl _)] at hx
    simp at hx
    subst hx
    exact .inl ⟨by simp, rfl, rfl⟩
theorem Bd_zero (l : List UInt8) : Bd l 0 := by
  by_cases h : l = []
  · subst h; exact .inr rfl
  · exact .inl (St_zero h)
theorem Ls_Bd {l : List UInt8} {k : Nat} {x : Nat × Nat × Nat} (hx : (Ls l)[k]? = some x) : Bd l x.1 ∧ Bd l x.2.1 ∧ Bd l (x.2.1 + x.2.2) := by
  refine ⟨?_, ?_, ?_⟩
  · cases k with
    | zero => rw [Ls_first hx]; exact Bd_zero l
    | succ k =>
      have hlt := (List.getElem?_eq_some_iff.1 hx).1
      have hz : (Ls l)[k]? = some (Ls l)[k] := List.getElem?_eq_getElem (by omega)
      rw [Ls_next hz hx]
      rcases Ls_to hz with h | h
      · omega
      · rw [h.2.1]; exact Bd_end (by rw [← h.2.1]; exact h.2.2)
  · rcases Ls_to hx with h | h
    · exact .inr h.2.1
    · exact .inl (endW_st (by rw [← h.2.1]; exact h.2.2))
  · rcases Ls_to hx with h | h
    · exact .inr (by omega)
    · rw [h.2.1]; exact Bd_end (by rw [← h.2.1]; exact h.2.2)

theorem St_drop {l : List UInt8} {a i : Nat} (h : Bd l a) (hi : a ≤ i) : St l i ↔ St (l.drop a) (i - a) := by
  have hc := Cs_cut l a 0 h
  rw [Nat.zero_add, Cs_shift (l.drop a) a] at hc
  have hle := h.le
  constructor
  · rintro ⟨e, he, rfl⟩
    rw [hc, List.mem_append] at he
    rcases he with he | he
    · have := Cs_mem (l.take a) 0 e he
      rw [List.length_take] at this
      omega
    · rw [List.mem_map] at he
      obtain ⟨f, hf, rfl⟩ := he
      exact ⟨f, hf, by simp⟩
  · rintro ⟨f, hf, h2⟩
    refine ⟨(f.1 + a, f.2), ?_, by simp; omega⟩
    rw [hc, List.mem_append, List.mem_map]
    exact .inr ⟨f, hf, rfl⟩
theorem Bd_drop {l : List UInt8} {a i : Nat} (h : Bd l a) (hi : a ≤ i) (h2 : Bd l i) : Bd (l.drop a) (i - a) := by
  rcases h2 with h2 | h2
  · exact .inl ((St_drop h hi).1 h2)
  · exact .inr (by rw [List.length_drop]; omega)
theorem St_take {m : List UInt8} {b j : Nat} (h : Bd m b) (hj : j < b) (hs : St m j) : St (m.take b) j := by
  have hc := Cs_cut m b 0 h
  rw [Nat.zero_add] at hc
  obtain ⟨e, he, rfl⟩ := hs
  rw [hc, List.mem_append] at he
  rcases he with he | he
  · exact ⟨e, he, rfl⟩
  · have := Cs_mem (m.drop b) b e he
    omega
theorem ofN_take {m : List UInt8} {b j : Nat} (h : Bd m b) (hj : j < b) : ofN (m.take b) j = ofN m j := by
  have hc := Cs_cut m b 0 h
  rw [Nat.zero_add] at hc
  unfold ofN
  rw [hc, List.filter_append, List.length_append]
  have : (Cs b (m.drop b)).filter (fun e => decide (e.1 ≤ j)) = [] := by
    rw [List.filter_eq_nil_iff]
    intro e he
    have := Cs_mem (m.drop b) b e he
    simp; omega
  rw [this]; rfl
theorem ofV_lt {l : List UInt8} {j : Nat} (h : j < l.length) : ofV l (j : Int) = ((ofN l j : Int) - 1, 0) := by
  unfold ofV; rw [if_pos ⟨by omega, by omega⟩, if_neg (by omega), Int.toNat_natCast]
theorem begins_St {l : List UInt8} {i : Nat} (h : St l i) : beginsV l (i : Int) = true := by
  have hlt := St_lt h
  have h2 := (begins_iff l i hlt).2 h
  unfold beginsV
  rw [decide_eq_true (by omega : (0 : Int) ≤ (i : Int)), decide_eq_true (by omega : (i : Int) ≤ (l.length : Int)), Int.toNat_natCast, decide_eq_true h2]
  simp
theorem ofN_mono (l : List UInt8) {i j : Nat} (h : i ≤ j) : ofN l i ≤ ofN l j := by
  unfold ofN
  rw [← List.countP_eq_length_filter, ← List.countP_eq_length_filter]
  exact List.countP_mono_left (fun e _ h2 => by simp at *; omega)
theorem ofV_mono (l : List UInt8) {i j : Nat} (h : i ≤ j) (hj : j ≤ l.length) : (ofV l (i : Int)).1 ≤ (ofV l (j : Int)).1 := by
  have hm := ofN_mono l h
  by_cases e : i = j
  · subst e; exact Int.le_refl _
  · rw [ofV_lt (by omega)]
    by_cases hj2 : j < l.length
    · rw [ofV_lt hj2]; simp; omega
    · have e2 : j = l.length := by omega
      subst e2
      rw [ofN_end] at hm
      rw [(order_end l).1]; simp; omega
theorem where_mono {l : List UInt8} {i k i' k' : Nat} {x x' : Nat × Nat × Nat} (h : WhereAt l i k x) (h' : WhereAt l i' k' x') (hi : i ≤ i') : k ≤ k' := by
  by_cases hk : k ≤ k'
  · exact hk
  · exfalso
    have h1 := h.2.1 k' x' (by omega) h'.1
    have h2 := (List.getElem?_eq_some_iff.1 h.1).1
    rcases h'.2.2 with h3 | h3 <;> omega
theorem where_le {l : List UInt8} {i k : Nat} {x : Nat × Nat × Nat} (hi : i ≤ l.length) (h : WhereAt l i k x) : i ≤ x.2.1 + x.2.2 := by
  rcases h.2.2 with h1 | h1
  · omega
  · rcases Ls_to h.1 with h2 | h2 <;> omega
/-- The column of a place. -/
def colW (l : List UInt8) (x : Nat × Nat × Nat) (i : Nat) : Int := (ofV ((l.drop x.1).take (x.2.1 + x.2.2 - x.1)) ((i : Int) - (x.1 : Int))).1
theorem spot_mono {l : List UInt8} {i k i' k' : Nat} {x x' : Nat × Nat × Nat} (h : WhereAt l i k x) (h' : WhereAt l i' k' x') (hi : i ≤ i') (hl : i' ≤ l.length) (h1 : x.1 ≤ i) : k < k' ∨ (k = k' ∧ colW l x i ≤ colW l x' i') := by
  have hk := where_mono h h' hi
  by_cases e : k = k'
  · right
    refine ⟨e, ?_⟩
    subst e
    have hxx : x = x' := by have := h.1.symm.trans h'.1; simpa using this
    subst hxx
    have hw := where_le hl h'
    have hm := Ls_mem (List.mem_of_getElem? h.1)
    unfold colW
    rw [show (i : Int) - (x.1 : Int) = ((i - x.1 : Nat) : Int) by omega, show (i' : Int) - (x.1 : Int) = ((i' - x.1 : Nat) : Int) by omega]
    exact ofV_mono _ (by omega) (by rw [List.length_take, List.length_drop]; omega)
  · left; omega

theorem placeV_at {l : List UInt8} {k a b e : Nat} (hk : (Ls l)[k]? = some (a, b, e)) (c : Int) : placeV l (k : Int) c = if (atV ((l.drop a).take (b - a)) c).2 = 0 then ((a : Int) + (atV ((l.drop a).take (b - a)) c).1, 0) else (0, 6) := by
  have hlt := (List.getElem?_eq_some_iff.1 hk).1
  have hl : lineV l (k : Int) = (((a : Int), (b : Int)), (e : Int), 0) := by
    unfold lineV
    rw [if_pos ⟨by omega, by omega⟩, Int.toNat_natCast, hk]
  unfold placeV
  rw [hl]
  simp only [Int.toNat_natCast, if_true]

theorem back_main {l : List UInt8} {i k : Nat} {x : Nat × Nat × Nat} (hi : i ≤ l.length) (hw : WhereAt l i k x) (hx1 : x.1 ≤ i) :
    ∃ c : Nat, ofV ((l.drop x.1).take (x.2.1 + x.2.2 - x.1)) ((i : Int) - (x.1 : Int)) = ((c : Int), 0) ∧
      ((∃ n : Nat, placeV l (k : Int) (c : Int) = ((n : Int), 0) ∧ n ≤ i ∧ i ≤ n + 3 ∧ (Bd l i → n = i)) ∨ (placeV l (k : Int) (c : Int) = (0, 6) ∧ 0 < i ∧ i < l.length ∧ by' l (i - 1) = 13 ∧ by' l i = 10)) := by
  have hle := where_le hi hw
  have hB := Ls_Bd hw.1
  have hT := Ls_to hw.1
  have hmm := Ls_mem (List.mem_of_getElem? hw.1)
  obtain ⟨hk, -, hend⟩ := hw
  obtain ⟨a, b, e⟩ := x
  simp only at *
  obtain ⟨hBa, hBb, hBe⟩ := hB
  have hpv := placeV_at hk
  rw [show (i : Int) - (a : Int) = ((i - a : Nat) : Int) by omega]
  have hp1 := Bd_drop hBa hmm.1 hBb
  have hq1 := Bd_drop hBa (show a ≤ b + e by omega) hBe
  have hSi := fun h => (St_drop (i := i) hBa hx1).1 h
  have hml : (l.drop a).length = l.length - a := List.length_drop
  have hmb : (l.drop a).drop (b - a) = l.drop b := by rw [List.drop_drop]; congr 1; omega
  generalize hm : l.drop a = m at *
  have hPl : (m.take (b - a)).length = b - a := by rw [List.length_take]; omega
  have hQl : (m.take (b + e - a)).length = b + e - a := by rw [List.length_take]; omega
  by_cases hib : i < b
  · obtain ⟨c, n, nx, h1, h2, h3, h4, h5, -⟩ := order_in (m.take (b - a)) (i - a) (by omega)
    refine ⟨c, ?_, .inl ⟨a + n, ?_, by omega, by omega, fun hbd => ?_⟩⟩
    · rw [← h1, ofV_lt (by omega), ofV_lt (by omega), ofN_take hp1 (by omega), ofN_take hq1 (by omega)]
    · rw [hpv, h2]; simp
    · have hs : St l i := hbd.elim id (fun h => by omega)
      have := begins_St (St_take hp1 (by omega) (hSi hs))
      rw [h5] at this
      have := of_decide_eq_true this
      omega
  · rcases hT with ⟨ht1, ht2, ht3⟩ | ⟨ht1, ht2, ht3⟩
    · subst ht3
      have e1 : i = b := by omega
      subst e1
      obtain ⟨h1, h2, -⟩ := order_end (m.take (i - a))
      rw [hPl] at h1 h2
      refine ⟨(Cs 0 (m.take (i - a))).length, ?_, .inl ⟨i, ?_, Nat.le_refl _, by omega, fun _ => rfl⟩⟩
      · rw [Nat.add_zero]; exact h1
      · rw [hpv, h2]; simp; omega
    · have hlt : i < b + e := by rcases hend with h | h <;> omega
      have hstb : St l b := endW_st (by rw [← ht2]; exact ht3)
      have hbl := St_lt hstb
      have hcc := Cs_cut m (b - a) 0 hp1
      rw [Nat.zero_add, hmb, Cs_cons _ _ (drop_ne hbl)] at hcc
      have hat : (Cs 0 m)[(Cs 0 (m.take (b - a))).length]? = some (b - a, rune (l.drop b), cw (l.drop b)) := by rw [hcc]; simp
      have hen := order_end (m.take (b - a))
      rw [hPl] at hen
      have hcw := cw_le4 (l.drop b)
      by_cases hic : i < b + cw (l.drop b)
      · have hN := ofN_at (i := i - a) hat (by simp; omega) (by simp; omega)
        refine ⟨(Cs 0 (m.take (b - a))).length, ?_, .inl ⟨b, ?_, by omega, by omega, fun hbd => ?_⟩⟩
        · rw [ofV_lt (by omega), ofN_take hq1 (by omega), hN]; simp
        · rw [hpv, hen.2.1]; simp; omega
        · have hs : St l i := hbd.elim id (fun h => by omega)
          by_cases he : b = i
          · exact he
          · have := St_two hs hstb (by omega); omega
      · have e0 := endW_rune l b
        rw [← ht2] at e0
        by_cases c1 : endR4 (rune (l.drop b)) = false
        · rw [if_pos c1] at e0; omega
        · rw [if_neg c1] at e0
          by_cases c2 : rune (l.drop b) = 10 ∧ pv l b = 13
          · rw [if_pos c2] at e0; omega
          · rw [if_neg c2] at e0
            by_cases c3 : rune (l.drop b) = 13 ∧ by' l (b + 1) = 10
            · rw [if_pos c3] at e0
              subst e0
              have hcp := cw_pos (l.drop b)
              have ei : i = b + 1 := by omega
              subst ei
              have hc1 : cw (l.drop b) = 1 := by omega
              have h10 : b + 1 < l.length := byn_lt (by rw [c3.2]; decide)
              have h13 : by' l b = 13 := by have := (runes_end (l.drop b)).2.1.1 c3.1; rwa [by'_drop, Nat.add_zero] at this
              rw [hc1, List.drop_drop, Cs_cons _ _ (drop_ne h10)] at hcc
              have hat2 : (Cs 0 m)[(Cs 0 (m.take (b - a))).length + 1]? = some (b - a + 1, rune (l.drop (b + 1)), cw (l.drop (b + 1))) := by rw [hcc, List.getElem?_append_right (by omega)]; simp
              have hcp2 := cw_pos (l.drop (b + 1))
              have hN := ofN_at (i := b + 1 - a) hat2 (by simp; omega) (by simp; omega)
              refine ⟨(Cs 0 (m.take (b - a))).length + 1, ?_, .inr ⟨?_, by omega, h10, h13, c3.2⟩⟩
              · rw [ofV_lt (by omega), ofN_take hq1 (by omega), hN]; simp
              · rw [hpv, atV_out (by omega)]; simp
            · rw [if_neg c3] at e0; omega
end Go.Proofs.Ytegplcomhahpfaa
