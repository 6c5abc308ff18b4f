/- The tallies of a text's pieces, joined, are the tally of the text; and no cut makes more than three characters of one. -/
import Derived.Test.YtehekcfliloodabTPt
namespace Go.Proofs.Ytehekcfliloodab
open Go.RowKit
set_option linter.unusedVariables false

theorem join_ofT (a b : ByteArray) (hs : a.size + b.size ≤ 9223372036854775807) : jE2 (ofT a) (ofT b) = 0 ∧ jT2 (ofT a) (ofT b) = ofT (a ++ b) := by
  obtain ⟨h1, h2, h3, h4, h5, h6⟩ := seam_adds a b
  have hl := lin_le (bl (a ++ b))
  have hc := (chn_le (bl (a ++ b))).1
  rw [bl_len, ByteArray.size_append] at hc
  have eL : jL (lin (bl a)) (lin (bl b)) (seamT (tl a) (hd b)).2 = ((lin (bl (a ++ b)) : Nat) : Int) := by
    unfold jL
    rw [← h2, IntKind.wrap_i64]
    omega
  have eB : (a.size : Int) + (b.size : Int) = (((a ++ b).size : Nat) : Int) := by rw [ByteArray.size_append]; omega
  have eH : jH (hd a) (hd b) = hd (a ++ b) := hd_join a b
  have eT : jT (tl a) (tl b) = tl (a ++ b) := tl_join a b
  have hv : jT2 (ofT a) (ofT b) = ofT (a ++ b) := by
    show ((a.size : Int) + (b.size : Int), (chn (bl a) : Int) + (chn (bl b) : Int) + (seamT (tl a) (hd b)).1, jL (lin (bl a)) (lin (bl b)) (seamT (tl a) (hd b)).2, jH (hd a) (hd b), jT (tl a) (tl b)) = _
    rw [eL, ← h1, eB, eH, eT]
    rfl
  refine ⟨?_, hv⟩
  show jE a.size (chn (bl a)) (lin (bl a)) (hd a) (tl a) b.size (chn (bl b)) (lin (bl b)) (hd b) (tl b) = 0
  unfold jE
  rw [if_neg (by rw [may_of' a, may_of' b]; decide), if_neg (by omega), eL, ← h1, eB, eH, eT, if_pos (may_of' (a ++ b))]

theorem extract_join (s : ByteArray) (f p : Nat) (h : f ≤ p) : s.extract 0 f ++ s.extract f p = s.extract 0 p := by
  apply bl_inj
  rw [bl_append, bl_to, bl_to, bl_extract]
  have := List.take_append_drop f ((bl s).take p)
  rw [List.take_take, Nat.min_eq_left h] at this
  rw [← List.drop_take]
  exact this
theorem extract_end (s : ByteArray) : s.extract 0 s.size = s := by
  apply bl_inj
  rw [bl_to, List.take_of_length_le (by rw [bl_len]; exact Nat.le_refl _)]

theorem sum_pieces (s : ByteArray) (hs : s.size ≤ 9223372036854775807) : ∀ (ps : List Nat) (f : Nat), f ≤ s.size → Rise s.size f ps → sumV (ofT (s.extract 0 f)) ((pieces s f ps).map ofT) = (ofT s, 0) := by
  intro ps
  induction ps with
  | nil =>
    intro f hf _
    have h := join_ofT (s.extract 0 f) (s.extract f s.size) (by rw [ByteArray.size_extract, ByteArray.size_extract]; omega)
    show (if jE2 _ _ = 0 then _ else _) = _
    rw [if_pos h.1, h.2, extract_join s f s.size hf, extract_end]
    rfl
  | cons p ps ih =>
    intro f hf hr
    have h := join_ofT (s.extract 0 f) (s.extract f p) (by rw [ByteArray.size_extract, ByteArray.size_extract]; have := hr.2.1; omega)
    show (if jE2 _ _ = 0 then _ else _) = _
    rw [if_pos h.1, h.2, extract_join s f p hr.1]
    exact ih p hr.2.1 hr.2.2
theorem sum_whole (s : ByteArray) (hs : s.size ≤ 9223372036854775807) (ps : List Nat) (hr : Rise s.size 0 ps) : sumV zT ((pieces s 0 ps).map ofT) = (ofT s, 0) := by
  have h := sum_pieces s hs ps 0 (Nat.zero_le _) hr
  have e : s.extract 0 0 = ⟨#[]⟩ := by
    apply bl_inj
    rw [bl_to]
    rfl
  rw [e, show ofT ⟨#[]⟩ = zT from by kernel_rfl] at h
  exact h

/-- How many characters the pieces have, each for itself. -/
def chs : List ByteArray → Nat
  | [] => 0
  | x :: xs => chn (bl x) + chs xs
theorem chs_append (a b : List ByteArray) : chs (a ++ b) = chs a + chs b := by
  induction a with
  | nil => simp [chs]
  | cons x xs ih => show chn (bl x) + chs (xs ++ b) = chn (bl x) + chs xs + chs b; rw [ih]; omega
theorem extract_rest (s : ByteArray) (f p : Nat) (h : f ≤ p) (hp : p ≤ s.size) : s.extract f p ++ s.extract p s.size = s.extract f s.size := by
  apply bl_inj
  rw [bl_append, bl_from, bl_from, bl_extract]
  have h2 : (bl s).drop p = ((bl s).drop f).drop (p - f) := by rw [List.drop_drop]; congr 1; omega
  rw [h2, List.take_append_drop]
theorem chs_bounds (s : ByteArray) : ∀ (ps : List Nat) (f : Nat), f ≤ s.size → Rise s.size f ps → chn (bl (s.extract f s.size)) ≤ chs (pieces s f ps) ∧ chs (pieces s f ps) ≤ chn (bl (s.extract f s.size)) + 3 * ps.length := by
  intro ps
  induction ps with
  | nil =>
    intro f hf _
    show _ ≤ chn (bl (s.extract f s.size)) + 0 ∧ chn (bl (s.extract f s.size)) + 0 ≤ _
    exact ⟨by omega, by omega⟩
  | cons p ps ih =>
    intro f hf hr
    have h := ih p hr.2.1 hr.2.2
    obtain ⟨h1, _, h3, h4, _, _⟩ := seam_adds (s.extract f p) (s.extract p s.size)
    rw [extract_rest s f p hr.1 hr.2.1] at h1
    show _ ≤ chn (bl (s.extract f p)) + chs (pieces s p ps) ∧ chn (bl (s.extract f p)) + chs (pieces s p ps) ≤ _ + 3 * (ps.length + 1)
    omega
theorem chs_whole (s : ByteArray) (ps : List Nat) (hr : Rise s.size 0 ps) : chn (bl s) ≤ chs (pieces s 0 ps) ∧ chs (pieces s 0 ps) ≤ chn (bl s) + 3 * ps.length := by
  have h := chs_bounds s ps 0 (Nat.zero_le _) hr
  rw [extract_end] at h
  exact h
theorem chs_le (xs : List ByteArray) (s : ByteArray) : True := trivial

/-- What a row of numbers of the call's own holds. -/
theorem sli_of_owns {W : World} {base : Nat} {v : Value} {ps : List Nat} (h : W.ownsRow base 3 1 v ps.length (ps.map (fun (p : Nat) => I64 p))) : ∃ a cap, v = .slice a ps.length cap ∧ SlI W a (ps.map (fun (p : Nat) => (p : Int))) := by
  rcases h.2 with ⟨rfl, h0⟩ | ⟨g, cap, cur, rfl, _, hg, hn, _, hs, hc⟩
  · have : ps = [] := List.eq_nil_of_length_eq_zero h0
    subst this
    exact ⟨none, 0, rfl, .inl rfl⟩
  · refine ⟨_, cap, rfl, .inr ⟨g, 0, rfl, (Array.getElem?_eq_some_iff.1 hg).1, fun i x hx => ?_⟩⟩
    rw [List.getElem?_map] at hx
    obtain ⟨p, hp, rfl⟩ := Option.map_eq_some_iff.1 hx
    have h1 : (ps.map (fun (p : Nat) => I64 p))[i]? = some (.int .i64 (p : Nat)) := by rw [List.getElem?_map, hp]; rfl
    have h2 : i < ps.length := (List.getElem?_eq_some_iff.1 hp).1
    rw [← hc, List.getElem?_take, if_pos (by omega)] at h1
    simp only [Nat.zero_add, World.cell?, hg]
    simpa using h1
end Go.Proofs.Ytehekcfliloodab
