/- Where words begin: the stops of a text, and what Next and Back find among them. -/
import Derived.Test.YtihfnnhfpohakaaKBack
namespace Go.Proofs.Ytihfnnhfpohakaa
open Go.RowKit Go.Shelf
set_option linter.unusedVariables false

abbrev Chr := Nat × Nat × Nat
def clsE (e : Nat × Nat × Nat) : Int := clsK (e.2.1 : Int)
/-- The stops among characters, behind one of a class. -/
def stp (a : Int) : List (Nat × Nat × Nat) → List Nat
  | [] => []
  | e :: t => if clsE e ≠ 1 ∧ clsE e ≠ a then e.1 :: stp (clsE e) t else stp (clsE e) t
/-- The class of the last one. -/
def lcl (a : Int) (l : List (Nat × Nat × Nat)) : Int := match l.getLast? with
  | none => a
  | some e => clsE e
theorem lcl_nil (a : Int) : lcl a [] = a := rfl
theorem lcl_snoc (a : Int) (l : List (Nat × Nat × Nat)) (e : Nat × Nat × Nat) : lcl a (l ++ [e]) = clsE e := by unfold lcl; simp
theorem lcl_cons (a : Int) (e : Nat × Nat × Nat) (l : List (Nat × Nat × Nat)) : lcl a (e :: l) = lcl (clsE e) l := by
  unfold lcl
  cases l with
  | nil => rfl
  | cons x l => simp [List.getLast?_cons]
theorem stp_app : ∀ (x y : List (Nat × Nat × Nat)) (a : Int), stp a (x ++ y) = stp a x ++ stp (lcl a x) y
  | [], y, a => rfl
  | e :: x, y, a => by
    rw [lcl_cons]
    simp only [List.cons_append, stp]
    split
    · rw [stp_app x y]; rfl
    · rw [stp_app x y]
theorem stp_snoc (a : Int) (x : List (Nat × Nat × Nat)) (e : Nat × Nat × Nat) : stp a (x ++ [e]) = stp a x ++ (if clsE e ≠ 1 ∧ clsE e ≠ lcl a x then [e.1] else []) := by
  rw [stp_app]
  congr 1
theorem nxt_stp : ∀ (l : List (Nat × Nat × Nat)) (a : Int), nxt a l = (stp a l).head?
  | [], a => rfl
  | e :: t, a => by
    simp only [nxt, stp]
    show (if clsE e ≠ 1 ∧ clsE e ≠ a then _ else _) = _
    split
    · rfl
    · exact nxt_stp t _
/-- A stop is a character of the list, and what follows it are the stops behind it. -/
theorem stp_cons : ∀ (l : List (Nat × Nat × Nat)) (a : Int) (x : Nat) (R : List Nat), stp a l = x :: R → ∃ y e z, l = y ++ e :: z ∧ e.1 = x ∧ stp a y = [] ∧ R = stp (clsE e) z ∧ clsE e ≠ 1 ∧ clsE e ≠ lcl a y
  | [], a, x, R, h => by cases h
  | e :: t, a, x, R, h => by
    simp only [stp] at h
    split at h
    · rename_i hc
      cases h
      exact ⟨[], e, t, rfl, rfl, rfl, rfl, hc.1, hc.2⟩
    · rename_i hc
      obtain ⟨y, e', z, rfl, h1, h2, h3, h4, h5⟩ := stp_cons t _ _ _ h
      refine ⟨e :: y, e', z, rfl, h1, ?_, h3, h4, ?_⟩
      · simp only [stp]; rw [if_neg hc]; exact h2
      · rw [lcl_cons]; exact h5
/-- From behind: the last stop. -/
theorem bck_stp : ∀ (n : Nat) (ys : List (Nat × Nat × Nat)) (st : Nat) (b : Int), ys.length = n → (ys = [] → st = 0) → (∀ e, ys.head? = some e → e.1 = 0) →
    bck st b ys.reverse = ((stp 7 ys ++ (if b ≠ 1 ∧ b ≠ lcl 7 ys then [st] else [])).getLast?).getD 0 := by
  intro n
  induction n with
  | zero =>
    intro ys st b hn h0 _
    have e : ys = [] := List.length_eq_zero_iff.1 hn
    subst e
    have e0 := h0 rfl
    subst e0
    simp only [List.reverse_nil, bck, stp, List.nil_append]
    split <;> rfl
  | succ n ih =>
    intro ys st b hn h0 hh
    obtain ⟨zs, e, rfl⟩ : ∃ zs e, ys = zs ++ [e] := by
      have hne : ys ≠ [] := fun h => by rw [h] at hn; simp at hn
      exact ⟨ys.dropLast, ys.getLast hne, (List.dropLast_concat_getLast hne).symm⟩
    have hzl : zs.length = n := by simp at hn; exact hn
    rw [List.reverse_append, List.reverse_singleton, List.singleton_append]
    simp only [bck]
    show (if b ≠ 1 ∧ b ≠ clsE e then st else bck e.1 (clsE e) zs.reverse) = _
    rw [lcl_snoc]
    by_cases hc : b ≠ 1 ∧ b ≠ clsE e
    · rw [if_pos hc, if_pos hc]
      simp
    · rw [if_neg hc, if_neg hc, List.append_nil]
      rw [ih zs e.1 (clsE e) hzl (fun hz => by subst hz; exact hh e rfl) (fun x hx => hh x (by cases zs with | nil => cases hx | cons z zs => simpa using hx)), ← stp_snoc]
/-- The stops of a text, but its end. -/
def Sp (l : List UInt8) : List Nat := stp 7 (Cs 0 l)
theorem Cs_head (l : List UInt8) (e : Nat × Nat × Nat) (h : (Cs 0 l).head? = some e) : e.1 = 0 := by
  by_cases hl : l = []
  · subst hl; cases h
  · rw [Cs_cons 0 l hl] at h; cases h; rfl
theorem back_last (l : List UInt8) (p : Nat) : backP l p = ((Sp (l.take p)).getLast?).getD 0 := by
  unfold backP Sp
  rw [bck_stp _ (Cs 0 (l.take p)) 0 1 rfl (fun _ => rfl) (fun e h => Cs_head _ e h)]
  simp
/-- What Next finds from where a character begins. -/
theorem next_head (l : List UInt8) (p : Nat) (e : Nat × Nat × Nat) (z : List (Nat × Nat × Nat)) (h : Cs p (l.drop p) = e :: z) : nextP l p = ((stp (clsE e) z).head?).getD l.length := by
  have hs := Cs_shift (l.drop p) p
  rw [h] at hs
  unfold nextP
  cases hc : Cs 0 (l.drop p) with
  | nil => rw [hc] at hs; cases hs
  | cons c t =>
    rw [hc, List.map_cons] at hs
    cases hs
    have key : ∀ (t : List (Nat × Nat × Nat)) (a : Int), nxt a (t.map fun e => (e.1 + p, e.2)) = (nxt a t).map (· + p) := by
      intro t
      induction t with
      | nil => intro a; rfl
      | cons x t ih =>
        intro a
        simp only [List.map_cons, nxt]
        split
        · rfl
        · exact ih _
    rw [← nxt_stp]
    show (match nxt (clsK (c.2.1 : Int)) t with | none => l.length | some q => p + q) = ((nxt (clsK (c.2.1 : Int)) (t.map fun e => (e.1 + p, e.2))).getD l.length)
    rw [key]
    cases nxt (clsK (c.2.1 : Int)) t with
    | none => rfl
    | some q => simp [Nat.add_comm]
theorem next_end (l : List UInt8) : nextP l l.length = l.length := nextP_end (by simp)
/-- A split of the characters is a split of the text. -/
theorem Cs_split {l : List UInt8} {y z : List (Nat × Nat × Nat)} {e : Nat × Nat × Nat} (h : Cs 0 l = y ++ e :: z) : Bd l e.1 ∧ Cs 0 (l.take e.1) = y ∧ Cs e.1 (l.drop e.1) = e :: z := by
  have hS : St l e.1 := ⟨e, by rw [h]; simp, rfl⟩
  have hb : Bd l e.1 := .inl hS
  have hcut := Cs_cut l e.1 0 hb
  rw [Nat.zero_add] at hcut
  have hlt := St_lt hS
  rw [Cs_cons e.1 _ (drop_ne hlt)] at hcut
  have hs := Cs_sorted l 0
  have hy : ∀ x ∈ Cs 0 (l.take e.1), x.1 < e.1 := fun x hx => by
    have := Cs_mem _ 0 x hx
    rw [List.length_take] at this
    omega
  have hy2 : ∀ x ∈ y, x.1 < e.1 := fun x hx => by
    rw [h] at hs
    have h1 := (List.pairwise_append.1 hs).2.2 x hx e List.mem_cons_self
    have h2 := Cs_mem l 0 x (by rw [h]; exact List.mem_append_left _ hx)
    omega
  -- both splits stand at the one character that begins there
  have key : ∀ (A B : List (Nat × Nat × Nat)) (c d : Nat × Nat × Nat) (C D : List (Nat × Nat × Nat)) (k : Nat), A ++ c :: C = B ++ d :: D → (∀ x ∈ A, x.1 < k) → (∀ x ∈ B, x.1 < k) → c.1 = k → d.1 = k → A = B ∧ c :: C = d :: D := by
    intro A
    induction A with
    | nil =>
      intro B c d C D k h hA hB hc hd
      cases B with
      | nil => exact ⟨rfl, h⟩
      | cons b B =>
        simp only [List.nil_append, List.cons_append, List.cons.injEq] at h
        have := hB b List.mem_cons_self
        rw [← h.1] at this
        omega
    | cons a A ih =>
      intro B c d C D k h hA hB hc hd
      cases B with
      | nil =>
        simp only [List.nil_append, List.cons_append, List.cons.injEq] at h
        have := hA a List.mem_cons_self
        rw [h.1] at this
        omega
      | cons b B =>
        simp only [List.cons_append, List.cons.injEq] at h
        obtain ⟨h1, h2⟩ := ih B c d C D k h.2 (fun x hx => hA x (List.mem_cons_of_mem _ hx)) (fun x hx => hB x (List.mem_cons_of_mem _ hx)) hc hd
        exact ⟨by rw [h.1, h1], h2⟩
  rw [h] at hcut
  obtain ⟨k1, k2⟩ := key y _ e _ z _ e.1 hcut hy2 hy rfl rfl
  refine ⟨hb, k1.symm, ?_⟩
  rw [Cs_cons e.1 _ (drop_ne hlt)]
  exact k2.symm
end Go.Proofs.Ytihfnnhfpohakaa
