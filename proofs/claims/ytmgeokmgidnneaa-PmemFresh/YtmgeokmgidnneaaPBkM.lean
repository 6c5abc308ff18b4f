/- A book of a device's words, pure: what is seen, what was, what lasts. -/
import Derived.Test.YtmgeokmgidnneaaPEvM
import Derived.Test.YtmgeokmgidnneaaPSt
namespace Go.Proofs.Ytmgeokmgidnneaa
open Go.RowKit Go.Shelf
set_option linter.unusedVariables false

structure Bk where
  seen : List Nat
  held : List (List Nat)
  last : List Nat
  sure : List Bool
  marks : List Nat
/-- A word of a line. -/
def wd (c : List Nat) (k : Nat) : List Nat := (c.drop (8 * k)).take 8
/-- A line whose contents but the last one go with the next Fence. -/
def DueP (σ : St) (j : Nat) : Prop := σ.fl j = some (σ.past j).length ∨ σ.past j = []
structure BkRel (B : Bk) (σ : St) : Prop where
  ls : B.seen.length = 8 * σ.n
  lh : B.held.length = 8 * σ.n
  ll : B.last.length = 8 * σ.n
  lu : B.sure.length = 8 * σ.n
  lm : B.marks.length = σ.n
  seen : ∀ w v : Nat, B.seen[w]? = some v → v < 18446744073709551616 ∧ wd (σ.line (w / 8)) (w % 8) = leB 8 v
  held : ∀ (w : Nat) (l : List Nat), B.held[w]? = some l → Every σ (w / 8) (fun c => ∃ v ∈ l, wd c (w % 8) = leB 8 v)
  hv : ∀ l ∈ B.held, ∀ v ∈ l, v < 18446744073709551616
  sure : ∀ w v : Nat, B.sure[w]? = some true → B.last[w]? = some v → Every σ (w / 8) (fun c => wd c (w % 8) = leB 8 v)
  lv : ∀ v ∈ B.last, v < 18446744073709551616
  due : ∀ j : Nat, B.marks[j]? = some 1 → DueP σ j
theorem wd_splice_same {c p : List Nat} {k : Nat} (hc : c.length = 64) (hk : k < 8) (hp : p.length = 8) : wd (splice c (8 * k) p) k = p := by
  unfold wd
  refine List.ext_getElem? fun q => ?_
  rw [List.getElem?_take, List.getElem?_drop, splice_get _ _ _ _ (by omega)]
  by_cases hq : q < 8
  · rw [if_pos hq, if_neg (by omega), if_pos (by omega)]
    congr 1
    omega
  · rw [if_neg hq, List.getElem?_eq_none (by omega)]
theorem wd_splice_other {c p : List Nat} {k j : Nat} (hc : c.length = 64) (hk : k < 8) (hp : p.length = 8) (hj : j ≠ k) (hj8 : j < 8) : wd (splice c (8 * k) p) j = wd c j := by
  unfold wd
  refine List.ext_getElem? fun q => ?_
  rw [List.getElem?_take, List.getElem?_drop, List.getElem?_take, List.getElem?_drop, splice_get _ _ _ _ (by omega)]
  by_cases hq : q < 8
  · rw [if_pos hq, if_pos hq]
    by_cases h1 : 8 * j + q < 8 * k
    · rw [if_pos h1]
    · rw [if_neg h1, if_neg (by omega)]
  · rw [if_neg hq, if_neg hq]
/-- A word is stored. -/
def word8 (σ : St) (w v : Nat) : St := wordDo (leB 8 v) (8 * w) σ w
theorem word8_part {σ : St} {w v : Nat} : splice (σ.line (w / 8)) (max (8 * w) (w * 8) % 64) (((leB 8 v).drop (max (8 * w) (w * 8) - 8 * w)).take (8 - max (8 * w) (w * 8) % 8)) = splice (σ.line (w / 8)) (8 * (w % 8)) (leB 8 v) := by
  have e1 : max (8 * w) (w * 8) = 8 * w := by omega
  have l8 : (leB 8 v).length = 8 := by simp [leB]
  rw [e1, Nat.sub_self, List.drop_zero, show 8 * w % 8 = 0 by omega, Nat.sub_zero, List.take_of_length_le (by omega), show 8 * w % 64 = 8 * (w % 8) by omega]
theorem word8_line {σ : St} {w v j : Nat} (hok : σ.Ok) (hw : w < 8 * σ.n) (hj : j < σ.n) : (word8 σ w v).line j = if j = w / 8 then splice (σ.line (w / 8)) (8 * (w % 8)) (leB 8 v) else σ.line j := by
  have hl := line_len hok (i := w / 8) (by omega)
  have l8 : (leB 8 v).length = 8 := by simp [leB]
  have h := splice_line (σ := σ) (c := splice (σ.line (w / 8)) (8 * (w % 8)) (leB 8 v)) (i := w / 8) hok.len (by omega) (by rw [length_splice _ _ _ (by rw [hl, l8]; omega), hl]) j hj
  have e : (word8 σ w v).line j = ({ σ with bytes := splice σ.bytes (64 * (w / 8)) (splice (σ.line (w / 8)) (8 * (w % 8)) (leB 8 v)) } : St).line j := by
    show ((splice σ.bytes (64 * (w / 8)) (splice (σ.line (w / 8)) (max (8 * w) (w * 8) % 64) (((leB 8 v).drop (max (8 * w) (w * 8) - 8 * w)).take (8 - max (8 * w) (w * 8) % 8)))).drop (64 * j)).take 64 = _
    rw [word8_part]
    rfl
  rw [e, h]
theorem Every.word8 {σ : St} {w v j : Nat} {P : List Nat → Prop} (hok : σ.Ok) (hw : w < 8 * σ.n) (hj : j < σ.n) (h : Every σ j P) (hP : j = w / 8 → P (splice (σ.line (w / 8)) (8 * (w % 8)) (leB 8 v))) : Every (Go.Proofs.Ytmgeokmgidnneaa.word8 σ w v) j P := by
  refine Every.word (bs := leB 8 v) (at_ := 8 * w) (no := w) hok (by omega) hj h (fun e => ?_)
  rw [word8_part]
  exact hP e
def bstore (B : Bk) (w v : Nat) : Bk := ⟨B.seen.set w v, B.held.set w (B.held.getD w [] ++ [v]), B.last, B.sure.set w false, if B.marks[w / 8]? = some 1 then B.marks.set (w / 8) 2 else B.marks⟩
theorem BkRel.store {B : Bk} {σ : St} {w v : Nat} (h : BkRel B σ) (hok : σ.Ok) (hw : w < 8 * σ.n) (hv : v < 18446744073709551616) : BkRel (bstore B w v) (word8 σ w v) := by
  have hl := line_len hok (i := w / 8) (by omega)
  have l8 : (leB 8 v).length = 8 := by simp [leB]
  have hp : ∀ j, (word8 σ w v).past j = if j = w / 8 then σ.past (w / 8) ++ [σ.line (w / 8)] else σ.past j := fun j => rfl
  refine ⟨by show (B.seen.set w v).length = 8 * σ.n; rw [List.length_set]; exact h.ls, by show (B.held.set w _).length = 8 * σ.n; rw [List.length_set]; exact h.lh, h.ll, by show (B.sure.set w false).length = 8 * σ.n; rw [List.length_set]; exact h.lu, ?_, ?_, ?_, ?_, ?_, h.lv, ?_⟩
  · show (if B.marks[w / 8]? = some 1 then B.marks.set (w / 8) 2 else B.marks).length = σ.n
    split
    · rw [List.length_set]; exact h.lm
    · exact h.lm
  · intro i x hx
    have hi : i < 8 * σ.n := by have := (List.getElem?_eq_some_iff.1 hx).1; rw [← h.ls]; simpa [bstore] using this
    have hx : (B.seen.set w v)[i]? = some x := hx
    rw [word8_line hok hw (by omega)]
    rw [List.getElem?_set] at hx
    by_cases e : w = i
    · subst e
      rw [if_pos rfl, if_pos (by rw [h.ls]; exact hw)] at hx
      cases hx
      rw [if_pos rfl]
      exact ⟨hv, wd_splice_same hl (by omega) l8⟩
    · rw [if_neg e] at hx
      obtain ⟨h1, h2⟩ := h.seen i x hx
      refine ⟨h1, ?_⟩
      by_cases e2 : i / 8 = w / 8
      · rw [if_pos e2, wd_splice_other hl (by omega) l8 (by omega) (by omega), ← e2]
        exact h2
      · rw [if_neg e2]; exact h2
  · intro i l hx
    have hi : i < 8 * σ.n := by have := (List.getElem?_eq_some_iff.1 hx).1; rw [← h.lh]; simpa [bstore] using this
    have hx : (B.held.set w (B.held.getD w [] ++ [v]))[i]? = some l := hx
    rw [List.getElem?_set] at hx
    by_cases e : w = i
    · subst e
      rw [if_pos rfl, if_pos (by rw [h.lh]; exact hw)] at hx
      cases hx
      obtain ⟨l0, hl0⟩ : ∃ l, B.held[w]? = some l := ⟨_, List.getElem?_eq_getElem (by rw [h.lh]; exact hw)⟩
      have hg : B.held.getD w [] = l0 := by rw [List.getD_eq_getElem?_getD, hl0]; rfl
      rw [hg]
      refine Every.word8 hok hw (by omega) ((h.held w l0 hl0).mono (fun c hc => ?_)) (fun _ => ⟨v, by simp, wd_splice_same hl (by omega) l8⟩)
      obtain ⟨u, hu, hc⟩ := hc
      exact ⟨u, by simp [hu], hc⟩
    · rw [if_neg e] at hx
      have h0 := h.held i l hx
      refine Every.word8 hok hw (by omega) h0 (fun e2 => ?_)
      rw [wd_splice_other hl (by omega) l8 (by omega) (by omega), ← e2]
      exact h0.1
  · intro l hl2 u hu
    have hl2 : l ∈ B.held.set w (B.held.getD w [] ++ [v]) := hl2
    rcases List.mem_or_eq_of_mem_set hl2 with h1 | h1
    · exact h.hv l h1 u hu
    · subst h1
      rcases List.mem_append.1 hu with h2 | h2
      · rw [List.getD_eq_getElem?_getD] at h2
        cases hq : B.held[w]? with
        | none => rw [hq] at h2; simp at h2
        | some l0 => rw [hq] at h2; exact h.hv l0 (List.mem_of_getElem? hq) u h2
      · simp at h2; omega
  · intro i x hx hx2
    have hi : i < 8 * σ.n := by have := (List.getElem?_eq_some_iff.1 hx2).1; have h3 : (bstore B w v).last.length = B.last.length := rfl; rw [← h.ll]; omega
    have hx : (B.sure.set w false)[i]? = some true := hx
    rw [List.getElem?_set] at hx
    by_cases e : w = i
    · subst e
      rw [if_pos rfl] at hx
      split at hx <;> cases hx
    · rw [if_neg e] at hx
      have h0 := h.sure i x hx hx2
      refine Every.word8 hok hw (by omega) h0 (fun e2 => ?_)
      rw [wd_splice_other hl (by omega) l8 (by omega) (by omega), ← e2]
      exact h0.1
  · intro j hj
    have hj : (if B.marks[w / 8]? = some 1 then B.marks.set (w / 8) 2 else B.marks)[j]? = some 1 := hj
    have hjn : j ≠ w / 8 ∧ B.marks[j]? = some 1 := by
      by_cases hm : B.marks[w / 8]? = some 1
      · rw [if_pos hm, List.getElem?_set] at hj
        by_cases e : w / 8 = j
        · rw [if_pos e] at hj
          split at hj <;> simp at hj
        · rw [if_neg e] at hj; exact ⟨fun e2 => e e2.symm, hj⟩
      · rw [if_neg hm] at hj
        exact ⟨fun e => hm (e ▸ hj), hj⟩
    have h0 := h.due j hjn.2
    show σ.fl j = some ((word8 σ w v).past j).length ∨ (word8 σ w v).past j = []
    rw [hp j, if_neg hjn.1]
    exact h0
def bflush (B : Bk) (j : Nat) : Bk := { B with marks := B.marks.set j 1 }
theorem BkRel.flush {B : Bk} {σ : St} {j : Nat} (h : BkRel B σ) (hj : j < σ.n) : BkRel (bflush B j) (flushDo σ j) := by
  refine ⟨h.ls, h.lh, h.ll, h.lu, by show (B.marks.set j 1).length = σ.n; rw [List.length_set]; exact h.lm, h.seen, h.held, h.hv, h.sure, h.lv, fun i hi => ?_⟩
  have hi : (B.marks.set j 1)[i]? = some 1 := hi
  rw [List.getElem?_set] at hi
  show (if i = j ∧ σ.past j ≠ [] then some (σ.past j).length else σ.fl i) = some (σ.past i).length ∨ σ.past i = []
  by_cases e : j = i
  · subst e
    by_cases hp : σ.past j = []
    · exact .inr hp
    · rw [if_pos ⟨rfl, hp⟩]; exact .inl rfl
  · rw [if_neg e] at hi
    rw [if_neg (fun h => e h.1.symm)]
    exact h.due i hi
/-- What lasts behind a Fence, of the first words. -/
def fenLast (B : Bk) : Nat → List Nat
  | 0 => B.last
  | k + 1 => if B.marks[k / 8]? = some 1 then (fenLast B k).set k (B.seen.getD k 0) else fenLast B k
def fenSure (B : Bk) : Nat → List Bool
  | 0 => B.sure
  | k + 1 => if B.marks[k / 8]? = some 1 then (fenSure B k).set k true else fenSure B k
theorem fenLast_len (B : Bk) : ∀ k, (fenLast B k).length = B.last.length
  | 0 => rfl
  | k + 1 => by
    unfold fenLast
    split
    · rw [List.length_set]; exact fenLast_len B k
    · exact fenLast_len B k
theorem fenSure_len (B : Bk) : ∀ k, (fenSure B k).length = B.sure.length
  | 0 => rfl
  | k + 1 => by
    unfold fenSure
    split
    · rw [List.length_set]; exact fenSure_len B k
    · exact fenSure_len B k
theorem fenLast_get (B : Bk) (i : Nat) (hi : i < B.last.length) : ∀ k, (fenLast B k)[i]? = if i < k ∧ B.marks[i / 8]? = some 1 then some (B.seen.getD i 0) else B.last[i]?
  | 0 => by rw [if_neg (by omega)]; rfl
  | k + 1 => by
    have ih := fenLast_get B i hi k
    unfold fenLast
    by_cases hm : B.marks[k / 8]? = some 1
    · rw [if_pos hm, List.getElem?_set, fenLast_len]
      by_cases e : k = i
      · subst e
        rw [if_pos rfl, if_pos hi, if_pos ⟨by omega, hm⟩]
      · rw [if_neg e, ih]
        by_cases c : i < k ∧ B.marks[i / 8]? = some 1
        · rw [if_pos c, if_pos ⟨by omega, c.2⟩]
        · rw [if_neg c, if_neg (fun c2 => c ⟨by omega, c2.2⟩)]
    · rw [if_neg hm, ih]
      by_cases c : i < k ∧ B.marks[i / 8]? = some 1
      · rw [if_pos c, if_pos ⟨by omega, c.2⟩]
      · rw [if_neg c, if_neg (fun c2 => by
          by_cases e : i = k
          · subst e; exact hm c2.2
          · exact c ⟨by omega, c2.2⟩)]
theorem fenSure_get (B : Bk) (i : Nat) (hi : i < B.sure.length) : ∀ k, (fenSure B k)[i]? = if i < k ∧ B.marks[i / 8]? = some 1 then some true else B.sure[i]?
  | 0 => by rw [if_neg (by omega)]; rfl
  | k + 1 => by
    have ih := fenSure_get B i hi k
    unfold fenSure
    by_cases hm : B.marks[k / 8]? = some 1
    · rw [if_pos hm, List.getElem?_set, fenSure_len]
      by_cases e : k = i
      · subst e
        rw [if_pos rfl, if_pos hi, if_pos ⟨by omega, hm⟩]
      · rw [if_neg e, ih]
        by_cases c : i < k ∧ B.marks[i / 8]? = some 1
        · rw [if_pos c, if_pos ⟨by omega, c.2⟩]
        · rw [if_neg c, if_neg (fun c2 => c ⟨by omega, c2.2⟩)]
    · rw [if_neg hm, ih]
      by_cases c : i < k ∧ B.marks[i / 8]? = some 1
      · rw [if_pos c, if_pos ⟨by omega, c.2⟩]
      · rw [if_neg c, if_neg (fun c2 => by
          by_cases e : i = k
          · subst e; exact hm c2.2
          · exact c ⟨by omega, c2.2⟩)]
def bfence (B : Bk) : Bk := ⟨B.seen, B.held, fenLast B B.seen.length, fenSure B B.seen.length, List.replicate B.marks.length 0⟩
theorem BkRel.fence {B : Bk} {σ : St} (h : BkRel B σ) (hok : σ.Ok) : BkRel (bfence B) (fenceDo σ) := by
  have hlast : ∀ v ∈ fenLast B B.seen.length, v < 18446744073709551616 := fun v hv => by
    obtain ⟨i, hi⟩ := List.getElem?_of_mem hv
    have hlt := (List.getElem?_eq_some_iff.1 hi).1
    rw [fenLast_len] at hlt
    rw [fenLast_get B i hlt] at hi
    split at hi
    · cases hi
      have hs : i < B.seen.length := by rw [h.ls, ← h.ll]; exact hlt
      rw [List.getD_eq_getElem?_getD, List.getElem?_eq_getElem hs]
      exact (h.seen i _ (List.getElem?_eq_getElem hs)).1
    · exact h.lv v (List.mem_of_getElem? hi)
  refine ⟨h.ls, h.lh, (fenLast_len B _).trans h.ll, (fenSure_len B _).trans h.lu, by show (List.replicate B.marks.length 0).length = σ.n; rw [List.length_replicate]; exact h.lm, h.seen, fun w l hw => (h.held w l hw).fence, h.hv, fun w v h1 h2 => ?_, hlast, fun j hj => ?_⟩
  · have h1 : (fenSure B B.seen.length)[w]? = some true := h1
    have h2 : (fenLast B B.seen.length)[w]? = some v := h2
    have hlt := (List.getElem?_eq_some_iff.1 h2).1
    rw [fenLast_len] at hlt
    have hlu : w < B.sure.length := by rw [h.lu, ← h.ll]; exact hlt
    have hls : w < B.seen.length := by rw [h.ls, ← h.ll]; exact hlt
    rw [fenLast_get B w hlt] at h2
    rw [fenSure_get B w hlu] at h1
    by_cases c : w < B.seen.length ∧ B.marks[w / 8]? = some 1
    · rw [if_pos c] at h2
      cases h2
      have hd := h.due _ c.2
      have hp : (fenceDo σ).past (w / 8) = [] := fence_one hd (fun k hk => (hok.flp _ k hk).2)
      refine ⟨?_, fun d hd2 => by rw [hp] at hd2; cases hd2⟩
      show wd (σ.line (w / 8)) (w % 8) = _
      rw [List.getD_eq_getElem?_getD, List.getElem?_eq_getElem hls]
      exact (h.seen w _ (List.getElem?_eq_getElem hls)).2
    · rw [if_neg c] at h1 h2
      exact (h.sure w v h1 h2).fence
  · have hj : (List.replicate B.marks.length 0)[j]? = some 1 := hj
    rw [List.getElem?_replicate] at hj
    split at hj <;> simp at hj
/-- A new device, and its book. -/
def bnew (n : Nat) : Bk := ⟨List.replicate (8 * n) 0, List.replicate (8 * n) [0], List.replicate (8 * n) 0, List.replicate (8 * n) true, List.replicate n 0⟩
theorem BkRel.new {n : Nat} (h1 : 1 ≤ n) (h2 : n ≤ 65536) : BkRel (bnew n) (newD n) := by
  have hz : ∀ w, w < 8 * n → wd ((newD n).line (w / 8)) (w % 8) = leB 8 0 := fun w hw => by
    have e : leB 8 0 = List.replicate 8 0 := by decide
    rw [e]
    unfold wd St.line
    show (((((List.replicate (64 * n) 0).drop (64 * (w / 8))).take 64).drop (8 * (w % 8))).take 8) = _
    rw [List.drop_replicate, List.take_replicate, List.drop_replicate, List.take_replicate]
    congr 1
    omega
  have hr : ∀ {α : Type} {m i : Nat} {x y : α}, (List.replicate m x)[i]? = some y → i < m ∧ y = x := fun h => by
    rw [List.getElem?_replicate] at h
    split at h
    · cases h; exact ⟨by assumption, rfl⟩
    · cases h
  refine ⟨by show (List.replicate (8 * n) 0).length = 8 * n; simp, by show (List.replicate (8 * n) [0]).length = 8 * n; simp, by show (List.replicate (8 * n) 0).length = 8 * n; simp, by show (List.replicate (8 * n) true).length = 8 * n; simp, by show (List.replicate n 0).length = n; simp, fun w v hw => ?_, fun w l hw => ?_, fun l hl v hv => ?_, fun w v h3 hw => ?_, fun v hv => ?_, fun j hj => ?_⟩
  · obtain ⟨hi, rfl⟩ := hr hw
    exact ⟨by omega, hz w hi⟩
  · obtain ⟨hi, rfl⟩ := hr hw
    exact ⟨⟨0, by simp, hz w hi⟩, fun c hc => by cases hc⟩
  · have hl : l ∈ List.replicate (8 * n) [0] := hl
    rw [List.eq_of_mem_replicate hl] at hv
    simp at hv
    omega
  · obtain ⟨hi, rfl⟩ := hr hw
    exact ⟨hz w hi, fun c hc => by cases hc⟩
  · have hv : v ∈ List.replicate (8 * n) 0 := hv
    rw [List.eq_of_mem_replicate hv]; omega
  · obtain ⟨_, h4⟩ := hr hj
    cases h4
end Go.Proofs.Ytmgeokmgidnneaa
