/- Package seek: what a search finds, item by item. -/
import Derived.Test.YtodooppapciegaaGreatDoorXSrchM
namespace Go.Proofs.YtodooppapciegaaGreatDoor
open Go.RowKit Go.Shelf
set_option linter.unusedVariables false
set_option linter.unusedSimpArgs false

section
variable {its : List Kd} {l : List UInt8} {f : Nat} {t : Int}
/-- The character at the i-th place is of the item's kind. -/
def fit (l : List UInt8) (f : Nat) (x : Kd) (i : Nat) : Prop := wdI l f i ≠ 0 ∧ x.2 (ahI l f (i + 1)) = true
/-- From one item on, and from one place on, the end of all items is come to at a place. -/
inductive Path (its : List Kd) (l : List UInt8) (f : Nat) : Nat → Nat → Nat → Prop
  | fin (j : Nat) : Path its l f j its.length j
  | pass (i n j : Nat) (x : Kd) : its[n]? = some x → zero (beI l f i) (enI l f i) x → Path its l f i (n + 1) j → Path its l f i n j
  | one (i n j : Nat) (x : Kd) : its[n]? = some x → 2 ≤ x.1 → x.1 ≠ 4 → fit l f x i → Path its l f (i + 1) (n + 1) j → Path its l f i n j
  | more (i n j : Nat) (x : Kd) : its[n]? = some x → x.1 = 4 → fit l f x i → Path its l f (i + 1) n j → Path its l f i n j
theorem Path.reach {i n j q : Nat} (h : Path its l f i n j) : Reach its l f t i n q → Reach its l f t j its.length q := by
  induction h with
  | fin j => exact id
  | pass i n j x hx hz _ ih => exact fun hr => ih (.pass i n q x hr hx hz)
  | one i n j x hx h2 h4 hf _ ih => exact fun hr => ih (.one i n q x hr hx h2 h4 hf.1 hf.2)
  | more i n j x hx h4 hf _ ih => exact fun hr => ih (.more i n q x hr hx h4 hf.1 hf.2)
theorem Reach.path {i n q : Nat} (h : Reach its l f t i n q) : ∀ j, Path its l f i n j → ∃ k, psI l f k = q ∧ (q : Int) ≤ t ∧ (∀ m, m < k → wdI l f m ≠ 0) ∧ Path its l f k 0 j := by
  induction h with
  | start i hv ht => exact fun j hp => ⟨i, rfl, ht, hv, hp⟩
  | pass i n q x _ hx hz ih => exact fun j hp => ih j (.pass i n j x hx hz hp)
  | one i n q x _ hx h2 h4 hw hc ih => exact fun j hp => ih j (.one i n j x hx h2 h4 ⟨hw, hc⟩ hp)
  | more i n q x _ hx h4 hw hc ih => exact fun j hp => ih j (.more i n j x hx h4 ⟨hw, hc⟩ hp)
/-- These items, one after the other, lead from one place to another one. -/
def Lead (l : List UInt8) (f : Nat) : List Kd → Nat → Nat → Prop
  | [], i, j => i = j
  | x :: r, i, j =>
    if x.1 = 0 then beI l f i = true ∧ Lead l f r i j
    else if x.1 = 1 then enI l f i = true ∧ Lead l f r i j
    else if x.1 = 2 then fit l f x i ∧ Lead l f r (i + 1) j
    else if x.1 = 4 then ∃ k, i ≤ k ∧ (∀ m, i ≤ m → m < k → fit l f x m) ∧ Lead l f r k j
    else Lead l f r i j ∨ (fit l f x i ∧ Lead l f r (i + 1) j)
theorem Path.lead {i n j : Nat} (h : Path its l f i n j) : Lead l f (its.drop n) i j := by
  induction h with
  | fin j => rw [List.drop_length]; exact rfl
  | pass i n j x hx hz _ ih =>
    obtain ⟨hn, hxe⟩ := List.getElem?_eq_some_iff.1 hx
    rw [List.drop_eq_getElem_cons hn, hxe]
    unfold Lead
    rcases hz with ⟨h0, hb⟩ | ⟨h1, hb⟩ | h3
    · rw [if_pos h0]; exact ⟨hb, ih⟩
    · rw [if_neg (by omega), if_pos h1]; exact ⟨hb, ih⟩
    · rw [if_neg (by omega), if_neg (by omega), if_neg (by omega)]
      split
      · exact ⟨i, Nat.le_refl _, fun m h4 h5 => by omega, ih⟩
      · exact .inl ih
  | one i n j x hx h2 h4 hf _ ih =>
    obtain ⟨hn, hxe⟩ := List.getElem?_eq_some_iff.1 hx
    rw [List.drop_eq_getElem_cons hn, hxe]
    unfold Lead
    rw [if_neg (by omega), if_neg (by omega)]
    by_cases h22 : x.1 = 2
    · rw [if_pos h22]; exact ⟨hf, ih⟩
    · rw [if_neg h22, if_neg h4]; exact .inr ⟨hf, ih⟩
  | more i n j x hx h4 hf _ ih =>
    obtain ⟨hn, hxe⟩ := List.getElem?_eq_some_iff.1 hx
    rw [List.drop_eq_getElem_cons hn, hxe] at ih ⊢
    unfold Lead at ih ⊢
    rw [if_neg (by omega), if_neg (by omega), if_neg (by omega), if_pos h4] at ih ⊢
    obtain ⟨k, h5, h6, h7⟩ := ih
    refine ⟨k, by omega, fun m h8 h9 => ?_, h7⟩
    by_cases e : m = i
    · rw [e]; exact hf
    · exact h6 m (by omega) h9
theorem many_path {n j : Nat} {x : Kd} (hx : its[n]? = some x) (h4 : x.1 = 4) : ∀ (d i k : Nat), k = i + d → (∀ m, i ≤ m → m < k → fit l f x m) → Path its l f k (n + 1) j → Path its l f i n j
  | 0, i, k, hk, _, hp => by
    rw [hk] at hp
    exact .pass i n j x hx (.inr (.inr (by omega))) hp
  | d + 1, i, k, hk, hf, hp => .more i n j x hx h4 (hf i (Nat.le_refl _) (by omega)) (many_path hx h4 d (i + 1) k (by omega) (fun m h1 h2 => hf m (by omega) h2) hp)
theorem lead_path : ∀ (r : List Kd) (n i j : Nat), n ≤ its.length → its.drop n = r → Lead l f r i j → Path its l f i n j
  | [], n, i, j, hn, hd, h => by
    have h1 : n = its.length := by
      have := congrArg List.length hd
      rw [List.length_drop] at this
      simp at this
      omega
    obtain rfl : i = j := h
    rw [h1]
    exact .fin i
  | x :: r, n, i, j, hn, hd, h => by
    have hlt : n < its.length := by
      have := congrArg List.length hd
      rw [List.length_drop] at this
      simp at this
      omega
    rw [List.drop_eq_getElem_cons hlt] at hd
    obtain ⟨h1, h2⟩ := List.cons.inj hd
    have hx : its[n]? = some x := List.getElem?_eq_some_iff.2 ⟨hlt, h1⟩
    have ih := fun i' j' => lead_path r (n + 1) i' j' hlt h2
    unfold Lead at h
    split at h
    · rename_i h0
      exact .pass i n j x hx (.inl ⟨h0, h.1⟩) (ih i j h.2)
    · split at h
      · rename_i h0
        exact .pass i n j x hx (.inr (.inl ⟨h0, h.1⟩)) (ih i j h.2)
      · split at h
        · rename_i h0
          exact .one i n j x hx (by omega) (by omega) h.1 (ih (i + 1) j h.2)
        · split at h
          · rename_i h4
            obtain ⟨k, h5, h6, h7⟩ := h
            exact many_path hx h4 (k - i) i k (by omega) h6 (ih k j h7)
          · rename_i g0 g1 g2 g4
            rcases h with h | ⟨h, h5⟩
            · exact .pass i n j x hx (.inr (.inr (by omega))) (ih i j h)
            · exact .one i n j x hx (by omega) g4 h (ih (i + 1) j h5)
/-- What a search leaves, item by item: the leftmost piece from its place on up to t at which the items lead anywhere, and of these the longest. -/
theorem found_lead {τ : Rs} (h : Found its l f t τ) :
    (τ.fo = true → ∃ i j, psI l f i = τ.bf ∧ (τ.bf : Int) ≤ t ∧ (∀ m, m < i → wdI l f m ≠ 0) ∧ Lead l f its i j ∧ psI l f j = τ.bt) ∧
    (∀ i j, (∀ m, m < i → wdI l f m ≠ 0) → (psI l f i : Int) ≤ t → Lead l f its i j → τ.fo = true ∧ (τ.bf < psI l f i ∨ (τ.bf = psI l f i ∧ psI l f j ≤ τ.bt))) := by
  refine ⟨fun hf => ?_, fun i j hv ht hl => ?_⟩
  · obtain ⟨j, hr, hj⟩ := h.1 hf
    obtain ⟨k, h1, h2, h3, h4⟩ := hr.path j (.fin j)
    exact ⟨k, j, h1, h2, h3, by simpa using h4.lead, hj⟩
  · have hp : Path its l f i 0 j := lead_path its 0 i j (Nat.zero_le _) (by simp) hl
    exact h.2.1 j _ (hp.reach (.start i hv ht))
end
end Go.Proofs.YtodooppapciegaaGreatDoor
