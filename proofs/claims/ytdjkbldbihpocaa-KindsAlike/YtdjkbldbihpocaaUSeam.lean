/- Plain Lean: what is cut is told at the seam. -/
import Derived.Test.YtdjkbldbihpocaaUOrdM
import Derived.Test.YtdjkbldbihpocaaUPend
namespace Go.Proofs.Ytdjkbldbihpocaa
set_option linter.unusedVariables false

theorem by'_take (l : List UInt8) (j k : Nat) : by' (l.take j) k = if k < j then by' l k else 0 := by
  unfold by'
  rw [List.getElem?_take]
  split <;> simp
theorem not_Co0 : ¬ Co 0 := fun h => by have := h.1; omega

theorem wd_same {b0 b1 b2 b3 c1 c2 c3 : Nat} {j : Nat} (hj : 1 ≤ j) (h1 : c1 = if 1 < j then b1 else 0) (h2 : c2 = if 2 < j then b2 else 0) (h3 : c3 = if 3 < j then b3 else 0) :
    wd b0 c1 c2 c3 = if wd b0 b1 b2 b3 ≤ j then wd b0 b1 b2 b3 else 0 := by
  have z := not_Co0
  rcases Nat.lt_or_ge 3 j with g | g
  · rw [if_pos (by omega)] at h1 h2 h3
    subst h1 h2 h3
    rw [if_pos (Nat.le_trans (wd_le _ _ _ _) (by omega))]
  · have hj3 : j = 1 ∨ j = 2 ∨ j = 3 := by omega
    rcases hj3 with rfl | rfl | rfl
    · simp at h1 h2 h3
      subst h1 h2 h3
      rcases wd_cases b0 b1 b2 b3 with g | g | g | g | g
      · rw [if_pos (by omega)]
        rcases wd_cases b0 0 0 0 with k | k | k | k | k
        · omega
        · exact absurd k.2.2.2.2 z
        · exact absurd k.2.2.2.2.1 z
        · exact absurd k.2.2.2.2.1 z
        · omega
      all_goals
        rcases wd_cases b0 0 0 0 with k | k | k | k | k
        · omega
        · exact absurd k.2.2.2.2 z
        · exact absurd k.2.2.2.2.1 z
        · exact absurd k.2.2.2.2.1 z
        · rw [k.1]; split <;> omega
    · simp at h1 h2 h3
      subst h1 h2 h3
      rcases wd_cases b0 c1 b2 b3 with g | g | g | g | g
      all_goals
        rcases wd_cases b0 c1 0 0 with k | k | k | k | k
        · split <;> omega
        · split <;> omega
        · exact absurd k.2.2.2.2.2 z
        · exact absurd k.2.2.2.2.2.1 z
        · split <;> omega
    · simp at h1 h2 h3
      subst h1 h2 h3
      rcases wd_cases b0 c1 c2 b3 with g | g | g | g | g
      all_goals
        rcases wd_cases b0 c1 c2 0 with k | k | k | k | k
        · split <;> omega
        · split <;> omega
        · (try unfold Co at g); (try unfold Co at k); split <;> omega
        · exact absurd k.2.2.2.2.2.2 z
        · (try unfold Co at g); (try unfold Co at k); split <;> omega

theorem W_take (l : List UInt8) (j : Nat) (hj : 1 ≤ j) : W (l.take j) = if W l ≤ j then W l else 0 := by
  unfold W
  refine (wd_same (b1 := by' l 1) (b2 := by' l 2) (b3 := by' l 3) hj (by'_take l j 1) (by'_take l j 2) (by'_take l j 3)).trans ?_
  have e : by' (l.take j) 0 = by' l 0 := by rw [by'_take, if_pos (by omega)]
  rw [e]
theorem W_take_le {l : List UInt8} {j : Nat} (hj : 1 ≤ j) (h : W l ≤ j) : W (l.take j) = W l := by rw [W_take l j hj, if_pos h]
theorem W_take_lt {l : List UInt8} {j : Nat} (hj : 1 ≤ j) (h : j < W l) : W (l.take j) = 0 := by rw [W_take l j hj, if_neg (by omega)]
theorem rune_take {l : List UInt8} {j : Nat} (hj : 1 ≤ j) (h : W l ≤ j) : rune (l.take j) = rune l := by
  unfold rune
  rw [W_take_le hj h]
  have h4 := W_le4 l
  have e : ∀ k, k < j → by' (l.take j) k = by' l k := fun k hk => by rw [by'_take, if_pos hk]
  have hw : W l = 0 ∨ W l = 1 ∨ W l = 2 ∨ W l = 3 ∨ W l = 4 := by omega
  rcases hw with w | w | w | w | w <;> rw [w]
  · simp [num]
  · show by' (l.take j) 0 = by' l 0
    exact e 0 (by omega)
  · show by' (l.take j) 0 % 32 * 64 + by' (l.take j) 1 % 64 = by' l 0 % 32 * 64 + by' l 1 % 64
    rw [e 0 (by omega), e 1 (by omega)]
  · show by' (l.take j) 0 % 16 * 4096 + by' (l.take j) 1 % 64 * 64 + by' (l.take j) 2 % 64 = by' l 0 % 16 * 4096 + by' l 1 % 64 * 64 + by' l 2 % 64
    rw [e 0 (by omega), e 1 (by omega), e 2 (by omega)]
  · show by' (l.take j) 0 % 8 * 262144 + by' (l.take j) 1 % 64 * 4096 + by' (l.take j) 2 % 64 * 64 + by' (l.take j) 3 % 64 = by' l 0 % 8 * 262144 + by' l 1 % 64 * 4096 + by' l 2 % 64 * 64 + by' l 3 % 64
    rw [e 0 (by omega), e 1 (by omega), e 2 (by omega), e 3 (by omega)]

theorem W_le_cw (l : List UInt8) : W l ≤ cw l := by unfold cw; split <;> omega

/-- Cut where a character begins, a text has on both sides the characters of the whole. -/
theorem Cs_cut (l : List UInt8) : ∀ i a, (St l i ∨ i = l.length) → Cs a l = Cs a (l.take i) ++ Cs (a + i) (l.drop i) := by
  induction l using byChars with
  | h0 => intro i a h; simp [Cs_nil]
  | h1 l hl ih =>
    intro i a h
    by_cases h0 : i = 0
    · subst h0; simp [Cs_nil]
    · have hn := cw_len l hl
      have hp := cw_pos l
      have hil : i ≤ l.length := by rcases h with h | h; exact Nat.le_of_lt (St_lt h); omega
      have hci : cw l ≤ i := by
        rcases h with h | h
        · rcases Nat.lt_or_ge i (cw l) with g | g
          · exact absurd h (St_inside hl (by omega) g)
          · exact g
        · omega
      have hWi : W l ≤ i := Nat.le_trans (W_le_cw l) hci
      have htn : l.take i ≠ [] := fun e => by have := congrArg List.length e; rw [List.length_take, List.length_nil] at this; omega
      have hcw : cw (l.take i) = cw l := by unfold cw; rw [W_take_le (by omega) hWi]
      have hst : St (l.drop (cw l)) (i - cw l) ∨ i - cw l = (l.drop (cw l)).length := by
        rcases h with h | h
        · rw [show i = cw l + (i - cw l) by omega] at h
          exact .inl ((St_step hl _).1 h)
        · right; rw [List.length_drop]; omega
      rw [Cs_cons a l hl, Cs_cons a (l.take i) htn, hcw, rune_take (by omega) hWi, List.cons_append, ih (i - cw l) (a + cw l) hst]
      rw [List.drop_take, List.drop_drop, show cw l + (i - cw l) = i by omega, show a + cw l + (i - cw l) = a + i by omega]

/-- The runes of a text. -/
def runesV (l : List UInt8) : List Nat := (Cs 0 l).map (·.2.1)
theorem runes_shift (a : Nat) (l : List UInt8) : (Cs a l).map (·.2.1) = runesV l := by
  unfold runesV
  rw [Cs_shift l a, List.map_map]
  rfl
theorem runesV_len (l : List UInt8) : (runesV l).length = (Cs 0 l).length := by unfold runesV; simp
theorem runesV_cons (l : List UInt8) (h : l ≠ []) : runesV l = rune l :: runesV (l.drop (cw l)) := by
  conv => lhs; unfold runesV
  rw [Cs_cons 0 l h, List.map_cons, runes_shift]
theorem runesV_nil : runesV [] = [] := rfl
theorem runesV_cut (l : List UInt8) (i : Nat) (h : St l i ∨ i = l.length) : runesV l = runesV (l.take i) ++ runesV (l.drop i) := by
  conv => lhs; unfold runesV
  rw [Cs_cut l i 0 h, List.map_append, runes_shift, runes_shift]
/-- Bytes that follow, at the beginning of a text, are wrong ones. -/
theorem runesV_co (q : List UInt8) : ∀ k, k ≤ q.length → (∀ m, m < k → Co (by' q m)) → runesV q = List.replicate k 65533 ++ runesV (q.drop k) := by
  intro k
  induction k generalizing q with
  | zero => intro _ _; simp
  | succ k ih =>
    intro hk hc
    have hq : q ≠ [] := fun e => by rw [e] at hk; simp at hk
    have h0 := W_of_co q (hc 0 (by omega))
    rw [runesV_cons q hq, rune_0 h0, cw_0 h0, ih (q.drop 1) (by rw [List.length_drop]; omega) (fun m hm => by rw [by'_drop]; exact hc (1 + m) (by omega)), List.drop_drop, List.replicate_succ, List.cons_append, Nat.add_comm 1 k]

theorem proper_of (p : List UInt8) (h1 : 1 ≤ p.length) (h3 : p.length ≤ 3) (q : List UInt8) (h : p.length < W (p ++ q)) : properV p = true := by
  have hpn : p ≠ [] := fun e => by rw [e] at h1; simp at h1
  have hcl : ∀ q : List UInt8, closesV p q = cw (p ++ q.take 3) - p.length := fun q => by
    unfold closesV; rw [if_neg]; intro hh; rcases hh with hh | hh; exact hpn hh; omega
  have hb : ∀ (q : List UInt8) (k : Nat), by' (p ++ q) k = if k < p.length then by' p k else by' q (k - p.length) := by
    intro q k
    unfold by'
    rw [List.getElem?_append]
    split <;> rfl
  have key : p.length < W (p ++ [128, 128, 128]) ∨ p.length < W (p ++ [191, 191, 191]) := by
    unfold W at h ⊢
    simp only [hb] at h ⊢
    have a0 : by' [128, 128, 128] 0 = 128 := by decide
    have a1 : by' [128, 128, 128] 1 = 128 := by decide
    have a2 : by' [128, 128, 128] 2 = 128 := by decide
    have c0 : by' [191, 191, 191] 0 = 191 := by decide
    have c1 : by' [191, 191, 191] 1 = 191 := by decide
    have c2 : by' [191, 191, 191] 2 = 191 := by decide
    have hl : p.length = 1 ∨ p.length = 2 ∨ p.length = 3 := by omega
    rcases hl with hl | hl | hl
    · rw [hl] at h ⊢
      simp only [show ¬ (1 : Nat) < 1 by omega, show ¬ (2 : Nat) < 1 by omega, show ¬ (3 : Nat) < 1 by omega, if_false, if_true, Nat.sub_self, show (2 : Nat) - 1 = 1 by omega, show (3 : Nat) - 1 = 2 by omega, show (0 : Nat) < 1 by omega, a0, a1, a2, c0, c1, c2] at h ⊢
      have hlead : 194 ≤ by' p 0 ∧ by' p 0 ≤ 244 := by
        rcases wd_cases (by' p 0) (by' q 0) (by' q 1) (by' q 2) with g | g | g | g | g <;> omega
      generalize by' p 0 = b0 at hlead ⊢
      clear h hb hcl
      unfold wd
      by_cases g1 : b0 = 224 ∨ b0 = 240
      · right
        rcases g1 with rfl | rfl <;> decide
      · left
        have hn : need b0 128 = 2 ∨ need b0 128 = 3 ∨ need b0 128 = 4 := by
          unfold need
          rw [if_neg (by omega)]
          split
          · exact .inl rfl
          · split
            · exact .inr (.inl rfl)
            · split
              · exact .inr (.inr rfl)
              · omega
        rcases hn with hn | hn | hn <;> rw [hn] <;> decide
    · rw [hl] at h ⊢
      simp only [show (1 : Nat) < 2 by omega, show ¬ (2 : Nat) < 2 by omega, show ¬ (3 : Nat) < 2 by omega, if_false, if_true, Nat.sub_self, show (3 : Nat) - 2 = 1 by omega, show (0 : Nat) < 2 by omega, a0, a1] at h ⊢
      left
      unfold wd at h ⊢
      have hn : need (by' p 0) (by' p 1) = 3 ∨ need (by' p 0) (by' p 1) = 4 := by
        rcases wd_cases (by' p 0) (by' p 1) (by' q 0) (by' q 1) with g | g | g | g | g
        all_goals (first | exact .inl g.2.1 | exact .inr g.2.1 | (exfalso; have := g.1; unfold wd at this; omega))
      rcases hn with hn | hn <;> rw [hn] <;> decide
    · rw [hl] at h ⊢
      simp only [show (1 : Nat) < 3 by omega, show (2 : Nat) < 3 by omega, show ¬ (3 : Nat) < 3 by omega, if_false, if_true, Nat.sub_self, show (0 : Nat) < 3 by omega, a0] at h ⊢
      left
      rcases wd_cases (by' p 0) (by' p 1) (by' p 2) (by' q 0) with g | g | g | g | g
      · omega
      · omega
      · omega
      · have : wd (by' p 0) (by' p 1) (by' p 2) 128 = 4 := by
          unfold wd
          rw [g.2.1, if_neg (by decide), if_neg (by decide), if_neg (by omega), if_pos ⟨rfl, g.2.2.2.2.2.1.1, g.2.2.2.2.2.1.2, by decide, by decide⟩]
        omega
      · omega
  unfold properV
  rw [hcl, hcl]
  rcases key with k | k
  · rw [decide_eq_true]
    · rfl
    · show 0 < cw (p ++ [128, 128, 128]) - p.length
      rw [cw_W (by omega)]; omega
  · rw [Bool.or_eq_true, decide_eq_true_eq, decide_eq_true_eq]
    right
    show 0 < cw (p ++ [191, 191, 191]) - p.length
    rw [cw_W (by omega)]; omega

theorem closes_pos {p q : List UInt8} (h : 0 < closesV p q) : 1 ≤ p.length ∧ p.length ≤ 3 ∧ p.length < W (p ++ q.take 3) ∧ closesV p q = W (p ++ q.take 3) - p.length := by
  unfold closesV at h ⊢
  split at h
  · omega
  · rename_i hn
    rw [if_neg hn]
    have hp : p ≠ [] := fun e => hn (.inl e)
    have := List.length_pos_iff.2 hp
    have h3 : p.length ≤ 3 := by rcases Nat.lt_or_ge 3 p.length with g | g; exact absurd (.inr g) hn; exact g
    have hw : W (p ++ q.take 3) = cw (p ++ q.take 3) := cw_big (by omega)
    exact ⟨by omega, h3, by omega, by rw [hw]⟩
theorem proper_pos {p : List UInt8} (h : properV p = true) : 1 ≤ p.length ∧ p.length ≤ 3 ∧ ∃ q, p.length < W (p ++ q) := by
  unfold properV at h
  rw [Bool.or_eq_true, decide_eq_true_eq, decide_eq_true_eq] at h
  rcases h with h | h
  · have := closes_pos h; exact ⟨this.1, this.2.1, _, this.2.2.1⟩
  · have := closes_pos h; exact ⟨this.1, this.2.1, _, this.2.2.1⟩
theorem proper_lead {p : List UInt8} (h : properV p = true) : ¬ Co (by' p 0) := by
  obtain ⟨h1, _, q, hq⟩ := proper_pos h
  have hl := W_lead (p ++ q) (by omega)
  have : by' (p ++ q) 0 = by' p 0 := by unfold by'; rw [List.getElem?_append_left (by omega)]
  rw [this] at hl
  intro hc
  have := hc.2
  omega

theorem pend_le (l : List UInt8) : pendingV l ≤ 3 ∧ pendingV l ≤ l.length := by
  unfold pendingV pendF
  split
  · split
    · omega
    · unfold pendF
      split
      · split
        · omega
        · unfold pendF
          split
          · split
            · omega
            · simp [pendF]
          · omega
      · omega
  · omega
theorem pend_proper {l : List UInt8} (h : 0 < pendingV l) : properV (l.drop (l.length - pendingV l)) = true := by
  unfold pendingV pendF at h ⊢
  split at h
  · rename_i h1
    rw [if_pos h1]
    split at h
    · rename_i h2; rw [if_pos h2]; exact h2
    · rename_i h2
      rw [if_neg h2]
      unfold pendF at h ⊢
      split at h
      · rename_i h3
        rw [if_pos h3]
        split at h
        · rename_i h4; rw [if_pos h4]; exact h4
        · rename_i h4
          rw [if_neg h4]
          unfold pendF at h ⊢
          split at h
          · rename_i h5
            rw [if_pos h5]
            split at h
            · rename_i h6; rw [if_pos h6]; exact h6
            · simp [pendF] at h
          · omega
      · omega
  · omega
/-- What is pending is told, if the bytes behind its first one follow. -/
theorem pend_eq {l : List UInt8} {n : Nat} (h1 : 1 ≤ n) (h3 : n ≤ 3) (hn : n ≤ l.length) (hp : properV (l.drop (l.length - n)) = true) (hc : ∀ m, 1 ≤ m → m < n → Co (by' l (l.length - m))) : pendingV l = n := by
  have no : ∀ m, 1 ≤ m → m < n → properV (l.drop (l.length - m)) ≠ true := fun m hm1 hm2 hh => proper_lead hh (by rw [by'_drop, Nat.add_zero]; exact hc m hm1 hm2)
  have hl : n = 1 ∨ n = 2 ∨ n = 3 := by omega
  rcases hl with rfl | rfl | rfl
  · unfold pendingV pendF
    rw [if_pos hn, if_pos hp]
  · unfold pendingV pendF
    rw [if_pos (by omega), if_neg (no 1 (by omega) (by omega))]
    unfold pendF
    rw [if_pos hn, if_pos hp]
  · unfold pendingV pendF
    rw [if_pos (by omega), if_neg (no 1 (by omega) (by omega))]
    unfold pendF
    rw [if_pos (by omega), if_neg (no 2 (by omega) (by omega))]
    unfold pendF
    rw [if_pos hn, if_pos hp]

/-- The bytes from j on, cut at i. -/
theorem cut_eq (l : List UInt8) (i j : Nat) (hj : j ≤ i) (hi : i ≤ l.length) (m : Nat) : (l.take i).drop j ++ (l.drop i).take m = (l.drop j).take (i - j + m) := by
  rw [List.drop_take, List.take_add, List.drop_drop, show j + (i - j) = i by omega]

/-- What is cut is told at the seam. -/
theorem seam (l : List UInt8) (i : Nat) (hi : i ≤ l.length) :
    ∃ n k : Nat, n = pendingV (l.take i) ∧ k = closesV ((l.take i).drop (i - n)) (l.drop i) ∧ n ≤ 3 ∧ n ≤ i ∧ k ≤ (l.drop i).length ∧ n + k ≤ 4 ∧ (n = 0 → k = 0) ∧ beginsV l i = decide (k = 0) ∧
      ((k = 0 ∧ runesV l = runesV (l.take i) ++ runesV (l.drop i)) ∨
       (0 < k ∧ ∃ R S, runesV (l.take i) = R ++ List.replicate n 65533 ∧ runesV (l.drop i) = List.replicate k 65533 ++ S ∧ runesV l = R ++ rune ((l.drop (i - n)).take (n + k)) :: S ∧
          W ((l.drop (i - n)).take (n + k)) = n + k ∧ runesV ((l.take i).drop (i - n)) = List.replicate n 65533 ∧ runesV ((l.drop i).take k) = List.replicate k 65533)) := by
  have hla : (l.take i).length = i := by rw [List.length_take]; omega
  have hbv : beginsV l i = decide (i = l.length ∨ op l i = i ∨ op l i + cw (l.drop (op l i)) ≤ i) := by
    unfold beginsV
    rw [decide_eq_true (by omega : (0 : Int) ≤ (i : Int)), decide_eq_true (by omega : (i : Int) ≤ (l.length : Int)), Int.toNat_natCast]
    rw [Bool.eq_iff_iff]
    simp only [Bool.and_eq_true, Bool.or_eq_true, decide_eq_true_eq, true_and]
    omega
  have hpl := pend_le (l.take i)
  rw [hla] at hpl
  by_cases hcr : ∃ j, j < i ∧ i < j + W (l.drop j)
  · -- a character is cut
    obtain ⟨j, hji, hij⟩ := hcr
    have h4 := W_le4 (l.drop j)
    have hlead := W_lead (l.drop j) (by omega)
    rw [by'_drop, Nat.add_zero] at hlead
    have hne : l.drop j ≠ [] := drop_ne (by omega)
    have hWl := W_len _ hne
    rw [List.length_drop] at hWl
    have hco : ∀ m, j < m → m < j + W (l.drop j) → Co (by' l m) := fun m h1 h2 => by
      have := W_co (l.drop j) (m - j) (by omega) (by omega)
      rwa [by'_drop, show j + (m - j) = m by omega] at this
    have hSj : St l j := St_of_not_co l j (by omega) (by intro h; have := h.2; omega)
    have hp : properV ((l.take i).drop j) = true := by
      refine proper_of _ (by rw [List.length_drop, hla]; omega) (by rw [List.length_drop, hla]; omega) ((l.drop i).take 3) ?_
      rw [cut_eq l i j (by omega) hi, W_take_le (by omega) (by omega), List.length_drop, hla]
      omega
    have hn : pendingV (l.take i) = i - j := by
      refine pend_eq (by omega) (by omega) (by rw [hla]; omega) (by rw [hla, show i - (i - j) = j by omega]; exact hp) (fun m h1 h2 => ?_)
      rw [hla, by'_take, if_pos (by omega)]
      exact hco _ (by omega) (by omega)
    have hk : closesV ((l.take i).drop j) (l.drop i) = j + W (l.drop j) - i := by
      unfold closesV
      rw [if_neg, cut_eq l i j (by omega) hi, List.length_drop, hla]
      · have : W ((l.drop j).take (i - j + 3)) = W (l.drop j) := W_take_le (by omega) (by omega)
        rw [cw_W (by omega), this]; omega
      · intro hh
        rcases hh with hh | hh
        · have := congrArg List.length hh; rw [List.length_drop, hla] at this; simp at this; omega
        · rw [List.length_drop, hla] at hh; omega
    have hnk : i - j + (j + W (l.drop j) - i) = W (l.drop j) := by omega
    have hNS : ¬ (i = l.length ∨ op l i = i ∨ op l i + cw (l.drop (op l i)) ≤ i) := by
      intro h
      rcases h with h | h
      · omega
      · have hs := (begins_iff l i (by omega)).1 h
        have := St_two hs hSj hji
        rw [cw_W (by omega)] at this
        omega
    refine ⟨i - j, j + W (l.drop j) - i, hn.symm, by rw [show i - (i - j) = j by omega, hk], by omega, by omega, by rw [List.length_drop]; omega, by omega, fun h => by omega, ?_, .inr ⟨by omega, ?_⟩⟩
    · rw [hbv, decide_eq_false hNS, decide_eq_false (by omega)]
    · rw [hnk, show i - (i - j) = j by omega]
      have hWt : W ((l.drop j).take (W (l.drop j))) = W (l.drop j) := W_take_le (by omega) (Nat.le_refl _)
      have hSja : St (l.take i) j := St_of_not_co _ j (by rw [hla]; exact hji) (by rw [by'_take, if_pos hji]; intro h; have := h.2; omega)
      have hpart : runesV ((l.take i).drop j) = List.replicate (i - j) 65533 := by
        have hd : ((l.take i).drop j).length = i - j := by rw [List.length_drop, hla]
        have hW0 : W ((l.take i).drop j) = 0 := by rw [List.drop_take]; exact W_take_lt (by omega) (by omega)
        have hne' : (l.take i).drop j ≠ [] := drop_ne (by rw [hla]; exact hji)
        rw [runesV_cons _ hne', rune_0 hW0, cw_0 hW0]
        rw [runesV_co _ (i - j - 1) (by rw [List.length_drop, hd]; omega) (fun m hm => by
          rw [by'_drop, by'_drop, by'_take, if_pos (by omega)]; exact hco _ (by omega) (by omega))]
        rw [List.drop_eq_nil_of_le (by rw [List.length_drop, hd]; omega), runesV_nil, List.append_nil]
        conv => rhs; rw [show i - j = (i - j - 1) + 1 by omega, List.replicate_succ]
      have hkb : ∀ m, m < j + W (l.drop j) - i → Co (by' (l.drop i) m) := fun m hm => by rw [by'_drop]; exact hco _ (by omega) (by omega)
      refine ⟨runesV (l.take j), runesV (l.drop (j + W (l.drop j))), ?_, ?_, ?_, hWt, hpart, ?_⟩
      · rw [runesV_cut (l.take i) j (.inl hSja), hpart, List.take_take, Nat.min_eq_left (by omega)]
      · rw [runesV_co (l.drop i) (j + W (l.drop j) - i) (by rw [List.length_drop]; omega) hkb, List.drop_drop, show i + (j + W (l.drop j) - i) = j + W (l.drop j) by omega]
      · rw [runesV_cut l j (.inl hSj), runesV_cons _ hne, rune_take (by omega) (Nat.le_refl _), cw_W (by omega), List.drop_drop]
      · have hd : ((l.drop i).take (j + W (l.drop j) - i)).length = j + W (l.drop j) - i := by rw [List.length_take, List.length_drop]; omega
        rw [runesV_co _ (j + W (l.drop j) - i) (by rw [hd]; exact Nat.le_refl _) (fun m hm => by rw [by'_take, if_pos hm]; exact hkb m hm)]
        have e : ((l.drop i).take (j + W (l.drop j) - i)).drop (j + W (l.drop j) - i) = [] := List.drop_eq_nil_of_le (by rw [hd]; exact Nat.le_refl _)
        rw [e, runesV_nil, List.append_nil]
  · -- none is
    have hbd : St l i ∨ i = l.length := by
      by_cases he : i = l.length
      · exact .inr he
      · left
        obtain ⟨j, h1, h2, h3⟩ := St_cover l i (by omega)
        by_cases hji : j = i
        · subst hji; exact h1
        · exact absurd ⟨j, by omega, by rw [cw_big (by omega)]; exact h3⟩ hcr
    have hk0 : closesV ((l.take i).drop (i - pendingV (l.take i))) (l.drop i) = 0 := by
      rcases Nat.eq_zero_or_pos (closesV ((l.take i).drop (i - pendingV (l.take i))) (l.drop i)) with h | h
      · exact h
      · exfalso
        obtain ⟨h1, h2, h3, h4⟩ := closes_pos h
        rw [cut_eq l i _ (by omega) hi, List.length_drop, hla] at h3
        rw [List.length_drop, hla] at h1 h2
        refine hcr ⟨i - pendingV (l.take i), by omega, ?_⟩
        have hw4 := W_le4 (l.drop (i - pendingV (l.take i)))
        rw [W_take_le (by omega) (by omega)] at h3
        omega
    refine ⟨pendingV (l.take i), 0, rfl, hk0.symm, hpl.1, hpl.2, by omega, by omega, fun _ => rfl, ?_, .inl ⟨rfl, runesV_cut l i hbd⟩⟩
    rw [hbv, decide_eq_true rfl, decide_eq_true]
    rcases hbd with h | h
    · exact .inr ((begins_iff l i (St_lt h)).2 h)
    · exact .inl h
end Go.Proofs.Ytdjkbldbihpocaa
