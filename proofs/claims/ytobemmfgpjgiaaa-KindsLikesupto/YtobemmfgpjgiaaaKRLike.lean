/- What the document's Alike answers. -/
import Derived.Test.YtobemmfgpjgiaaaKRunes
import Derived.Test.YtobemmfgpjgiaaaKAlk
import Derived.Test.YtobemmfgpjgiaaaUChs
import Derived.Deep.RegionHeld3
namespace Go.Proofs.Ytobemmfgpjgiaaa
open Go.RowKit Go.Shelf
set_option linter.unusedVariables false

/-- What a character of a text is compared by. -/
def kE (l : List UInt8) (e : Nat × Nat × Nat) : Bool × Int := if rightE e then (true, foldK (e.2.1 : Int)) else (false, (by' l e.1 : Nat))
theorem Ks_Cs (l : List UInt8) : Ks l = (Cs 0 l).map (kE l) := by
  have key : ∀ m : List UInt8, ∀ p : Nat, m = l.drop p → Ks m = (Cs p m).map (kE l) := by
    intro m
    induction m using byChars with
    | h0 => intro p _; rfl
    | h1 m hm ih =>
      intro p hp
      rw [Ks_cons hm, Cs_cons p m hm, List.map_cons]
      rw [ih (p + cw m) (by rw [hp, List.drop_drop])]
      congr 1
      unfold key kE
      rw [rightE_at]
      have hb : by' m 0 = by' l p := by rw [hp, by'_drop]; rfl
      by_cases hw : W m = 0
      · simp [hw, hb]
      · simp [hw]
  exact key l 0 (by simp)
theorem alike_len {l m : List UInt8} (h : (Cs 0 l).length ≠ (Cs 0 m).length) : alikeV l m = false := by
  unfold alikeV
  apply decide_eq_false
  intro e
  rw [Ks_Cs, Ks_Cs] at e
  exact h (by simpa using congrArg List.length e)
theorem alike_at {l m : List UInt8} {k : Nat} {e f : Nat × Nat × Nat} (he : (Cs 0 l)[k]? = some e) (hf : (Cs 0 m)[k]? = some f) (h : kE l e ≠ kE m f) : alikeV l m = false := by
  unfold alikeV
  apply decide_eq_false
  intro eq
  rw [Ks_Cs, Ks_Cs] at eq
  have := congrArg (fun x => x[k]?) eq
  simp only [List.getElem?_map, he, hf, Option.map_some, Option.some.injEq] at this
  exact h this
theorem alike_all {l m : List UInt8} (hl : (Cs 0 l).length = (Cs 0 m).length) (h : ∀ (k : Nat) (e f : Nat × Nat × Nat), (Cs 0 l)[k]? = some e → (Cs 0 m)[k]? = some f → kE l e = kE m f) : alikeV l m = true := by
  unfold alikeV
  apply decide_eq_true
  rw [Ks_Cs, Ks_Cs]
  apply List.ext_getElem?
  intro k
  rw [List.getElem?_map, List.getElem?_map]
  by_cases hk : k < (Cs 0 l).length
  · have e1 := List.getElem?_eq_getElem hk
    have e2 := List.getElem?_eq_getElem (show k < (Cs 0 m).length by omega)
    rw [e1, e2, Option.map_some, Option.map_some, h k _ _ e1 e2]
  · rw [List.getElem?_eq_none (by omega), List.getElem?_eq_none (by omega)]
    rfl
theorem alike_comm (l m : List UInt8) : alikeV m l = alikeV l m := by
  unfold alikeV
  exact decide_eq_decide.2 ⟨fun h => h.symm, fun h => h.symm⟩
theorem alike_self (l : List UInt8) : alikeV l l = true := by unfold alikeV; simp

theorem rune_lt {l : List UInt8} (e : Nat × Nat × Nat) (h : 0 ≤ e.1 ∧ e.1 + e.2.2 ≤ 0 + l.length ∧ 1 ≤ e.2.2 ∧ e.2.2 ≤ 4 ∧ e.2.1 = rune (l.drop (e.1 - 0)) ∧ e.2.2 = cw (l.drop (e.1 - 0))) : (e.2.1 : Int) ≤ 1114111 := by
  have := rune_le (l.drop (e.1 - 0))
  omega
set_option maxHeartbeats 4000000 in
theorem rlike_any (a b : ByteArray) (w : World) (ha : a.size ≤ 1048576) (hb : b.size ≤ 1048576) :
    Calls Try.prog 20 #[.string a, .string b] w fun e w' => e = .returned (.bool (alikeV (bl a) (bl b))) ∧ Below w.heap.size w w' := by
  have kx := fun w => chars_any a w ha
  have ky := fun w => chars_any b w hb
  have hla := Cs_len_le (bl a)
  have hlb := Cs_len_le (bl b)
  rw [bl_len] at hla hlb
  have M1 := hide trivial
  by_cases hl : (Cs 0 (bl a)).length = (Cs 0 (bl b)).length
  · have hall := alike_all hl
    have hat := fun k e f h1 h2 h3 => @alike_at (bl a) (bl b) k e f h1 h2 h3
    have hmx := fun e h => Cs_mem (bl a) 0 e h
    have hmy := fun e h => Cs_mem (bl b) 0 e h
    rw [bl_len] at hmx hmy
    generalize alikeV (bl a) (bl b) = R at *
    generalize Cs 0 (bl a) = X at *
    generalize Cs 0 (bl b) = Y at *
    obtain ⟨m, hm⟩ : ∃ m, X.length = m := ⟨_, rfl⟩
    rw [hm] at hla hl kx
    rw [← hl] at ky
    have KX := hide kx
    have KY := hide ky
    have HALL := hide hall
    have HAT := hide hat
    have HMX := hide hmx
    have HMY := hide hmy
    have HM := hide hm
    have HL := hide hl
    clear kx ky hall hat hmx hmy hm hl
    go_enter Try.func20, Try.ntmps20
    go_wp2_with (first | (clear M1; go_at_call 35; refine (KX.out _).mono ?_; rintro e w1 ⟨ax, cx, rfl, hsx, hB1⟩) | (go_at_call 35; refine (KY.out _).mono ?_; rintro e w2 ⟨ay, cy, rfl, hsy, hB2⟩))
    have HSX := hide (hsx.below hB2)
    have HSY := hide hsy
    have HB := hide (bseq hB1 hB2)
    clear hsx hsy hB1 hB2 KX KY
    go_loopw [7] (fun q wr => ∃ k : Nat, q = .int .i64 (k : Int) ∧ k ≤ m ∧ (∀ (j : Nat) (e f : Nat × Nat × Nat), j < k → X[j]? = some e → Y[j]? = some f → kE (bl a) e = kE (bl b) f) ∧ Below w2.heap.size w2 wr) (fun q _ => m - (intOf q).toNat)
    case atStart => exact ⟨0, rfl, by omega, fun j e f h => by omega, Below.refl _ _⟩
    case round =>
      obtain ⟨k, rfl, hk, hJ, hBr⟩ := hrel
      by_cases hlt : k < m
      · have hltI : (k : Int) < (m : Int) := by omega
        obtain ⟨e, he⟩ : ∃ e, X[k]? = some e := ⟨_, List.getElem?_eq_getElem (by rw [HM.out]; exact hlt)⟩
        obtain ⟨f, hf⟩ : ∃ f, Y[k]? = some f := ⟨_, List.getElem?_eq_getElem (by rw [← HL.out]; exact hlt)⟩
        obtain ⟨bx, rfl, hbx, hcx⟩ : ∃ b, ax = some ⟨b, 0, none⟩ ∧ b < wr.heap.size ∧ (wr.cell? ⟨b, k * 4, none⟩ = some (.int .i64 (e.1 : Int)) ∧ wr.cell? ⟨b, k * 4 + 1, none⟩ = some (.int .i32 (e.2.1 : Int)) ∧ wr.cell? ⟨b, k * 4 + 3, none⟩ = some (.bool (rightE e))) := by
          rcases (HSX.out.below hBr) with h | ⟨b, ha, hl, hh⟩
          · rw [h] at he; simp at he
          · exact ⟨b, ha, hl, (hh k e he).1, (hh k e he).2.1, (hh k e he).2.2.2⟩
        obtain ⟨yb, rfl, hby, hcy⟩ : ∃ b, ay = some ⟨b, 0, none⟩ ∧ b < wr.heap.size ∧ (wr.cell? ⟨b, k * 4, none⟩ = some (.int .i64 (f.1 : Int)) ∧ wr.cell? ⟨b, k * 4 + 1, none⟩ = some (.int .i32 (f.2.1 : Int)) ∧ wr.cell? ⟨b, k * 4 + 3, none⟩ = some (.bool (rightE f))) := by
          rcases (HSY.out.below hBr) with h | ⟨b, ha, hl, hh⟩
          · rw [h] at hf; simp at hf
          · exact ⟨b, ha, hl, (hh k f hf).1, (hh k f hf).2.1, (hh k f hf).2.2.2⟩
        have hat := HAT.out k e f he hf
        have hst : kE (bl a) e = kE (bl b) f → ∀ (j : Nat) (e' f' : Nat × Nat × Nat), j < k + 1 → X[j]? = some e' → Y[j]? = some f' → kE (bl a) e' = kE (bl b) f' := fun h j e' f' hj h1 h2 => by
          by_cases hjk : j < k
          · exact hJ j e' f' hjk h1 h2
          · have : j = k := by omega
            subst this
            rw [he] at h1; rw [hf] at h2
            cases h1; cases h2; exact h
        have hmx := HMX.out e (List.mem_of_getElem? he)
        have hmy := HMY.out f (List.mem_of_getElem? hf)
        have hlx : e.1 < a.size := by omega
        have hly : f.1 < b.size := by omega
        have hgx : by' (bl a) e.1 = (a[e.1]'hlx).toNat := by'_get a e.1 hlx
        have hgy : by' (bl b) f.1 = (b[f.1]'hly).toNat := by'_get b f.1 hly
        have hke : kE (bl a) e = if rightE e then (true, foldK (e.2.1 : Int)) else (false, (by' (bl a) e.1 : Nat)) := rfl
        have hkf : kE (bl b) f = if rightE f then (true, foldK (f.2.1 : Int)) else (false, (by' (bl b) f.1 : Nat)) := rfl
        have hex := rune_lt e hmx
        have hfy := rune_lt f hmy
        clear hmx hmy he hf hJ
        obtain ⟨x0, x1, x3⟩ := hcx
        obtain ⟨y0, y1, y3⟩ := hcy
        cases hre : rightE e with
        | true =>
          cases hrf : rightE f with
          | true =>
            rw [hre] at x3 hke
            rw [hrf] at y3 hkf
            simp only [if_true] at hke hkf
            by_cases hff : foldK (e.2.1 : Int) = foldK (f.2.1 : Int)
            · have HST := hide (hst (by rw [hke, hkf, hff]))
              have hq : (foldK (e.2.1 : Int) != foldK (f.2.1 : Int)) = false := by simp [hff]
              have KFX := hide (fun w => rfold_any (e.2.1 : Int) w (by omega))
              have KFY := hide (fun w => rfold_any (f.2.1 : Int) w (by omega))
              clear hat hst hke hkf hre hrf hgx hgy
              go_wp2
              go_quiet (fail)
              have x0' : (wr.drewN nq).cell? ⟨bx, k * 4, none⟩ = some (.int .i64 (e.1 : Int)) := x0
              have x1' : (wr.drewN nq).cell? ⟨bx, k * 4 + 1, none⟩ = some (.int .i32 (e.2.1 : Int)) := x1
              have x3' : (wr.drewN nq).cell? ⟨bx, k * 4 + 3, none⟩ = some (.bool true) := x3
              have y0' : (wr.drewN nq).cell? ⟨yb, k * 4, none⟩ = some (.int .i64 (f.1 : Int)) := y0
              have y1' : (wr.drewN nq).cell? ⟨yb, k * 4 + 1, none⟩ = some (.int .i32 (f.2.1 : Int)) := y1
              have y3' : (wr.drewN nq).cell? ⟨yb, k * 4 + 3, none⟩ = some (.bool true) := y3
              have hBr' : Below w2.heap.size w2 (wr.drewN nq) := below_drewN hBr _
              have hbx' : bx < (wr.drewN nq).heap.size := hbx
              have hby' : yb < (wr.drewN nq).heap.size := hby
              generalize wr.drewN nq = W3 at *
              clear x0 x1 x3 y0 y1 y3 hBr hbx hby
              have mk : ∀ W : World, Below W3.heap.size W3 W → (Below W3.heap.size W3 W ∧ W.cell? ⟨bx, k * 4 + 1, none⟩ = some (.int .i32 (e.2.1 : Int)) ∧ W.cell? ⟨bx, k * 4 + 3, none⟩ = some (.bool true) ∧ W.cell? ⟨yb, k * 4 + 1, none⟩ = some (.int .i32 (f.2.1 : Int)) ∧ W.cell? ⟨yb, k * 4 + 3, none⟩ = some (.bool true)) := fun W hW =>
                ⟨hW, (hW.cell (p := ⟨bx, k * 4 + 1, none⟩) hbx').trans x1', (hW.cell (p := ⟨bx, k * 4 + 3, none⟩) hbx').trans x3', (hW.cell (p := ⟨yb, k * 4 + 1, none⟩) hby').trans y1', (hW.cell (p := ⟨yb, k * 4 + 3, none⟩) hby').trans y3'⟩
              have MK := hide mk
              have M2 := hide trivial
              clear mk
              go_wp2
              go_region_held3 (fun W => Below W3.heap.size W3 W ∧ W.cell? ⟨bx, k * 4 + 1, none⟩ = some (.int .i32 (e.2.1 : Int)) ∧ W.cell? ⟨bx, k * 4 + 3, none⟩ = some (.bool true) ∧ W.cell? ⟨yb, k * 4 + 1, none⟩ = some (.int .i32 (f.2.1 : Int)) ∧ W.cell? ⟨yb, k * 4 + 3, none⟩ = some (.bool true)) (first | exact MK.out _ (Below.refl _ _).drew | exact MK.out _ hW5 | exact MK.out _ hW6) (first | (clear M2; go_at_call 18; refine (KFX.out _).mono ?_; rintro e w5 ⟨rfl, hB5⟩; have hW5 := bseq (Below.refl _ _).drew hB5) | (go_at_call 18; refine (KFY.out _).mono ?_; rintro e w6 ⟨rfl, hB6⟩; have hW6 := bseq hW5 hB6))
              obtain ⟨hW7, z1, z2, z3, z4⟩ := MK.out _ hW6
              have hB8 := bseq hBr' hW6
              clear hq hW5 hW6 hW7 x0' x1' x3' y0' y1' y3' hB5 hB6
              go_wp2
              go_quiet (fail)
              go_wp2
              go_roundw
              case rel => exact ⟨k + 1, by go_num, by omega, HST.out, below_drewN hB8 _⟩
              case measure => simp [intOf]; omega
            · have hR := hat (by rw [hke, hkf]; intro h; exact hff (by simpa using h))
              subst hR
              have hq : (foldK (e.2.1 : Int) != foldK (f.2.1 : Int)) = true := by simp [hff]
              have KFX := hide (fun w => rfold_any (e.2.1 : Int) w (by omega))
              have KFY := hide (fun w => rfold_any (f.2.1 : Int) w (by omega))
              clear hat hst hke hkf hre hrf hgx hgy
              go_wp2
              go_quiet (fail)
              have x0' : (wr.drewN nq).cell? ⟨bx, k * 4, none⟩ = some (.int .i64 (e.1 : Int)) := x0
              have x1' : (wr.drewN nq).cell? ⟨bx, k * 4 + 1, none⟩ = some (.int .i32 (e.2.1 : Int)) := x1
              have x3' : (wr.drewN nq).cell? ⟨bx, k * 4 + 3, none⟩ = some (.bool true) := x3
              have y0' : (wr.drewN nq).cell? ⟨yb, k * 4, none⟩ = some (.int .i64 (f.1 : Int)) := y0
              have y1' : (wr.drewN nq).cell? ⟨yb, k * 4 + 1, none⟩ = some (.int .i32 (f.2.1 : Int)) := y1
              have y3' : (wr.drewN nq).cell? ⟨yb, k * 4 + 3, none⟩ = some (.bool true) := y3
              have hBr' : Below w2.heap.size w2 (wr.drewN nq) := below_drewN hBr _
              have hbx' : bx < (wr.drewN nq).heap.size := hbx
              have hby' : yb < (wr.drewN nq).heap.size := hby
              generalize wr.drewN nq = W3 at *
              clear x0 x1 x3 y0 y1 y3 hBr hbx hby
              have mk : ∀ W : World, Below W3.heap.size W3 W → (Below W3.heap.size W3 W ∧ W.cell? ⟨bx, k * 4 + 1, none⟩ = some (.int .i32 (e.2.1 : Int)) ∧ W.cell? ⟨bx, k * 4 + 3, none⟩ = some (.bool true) ∧ W.cell? ⟨yb, k * 4 + 1, none⟩ = some (.int .i32 (f.2.1 : Int)) ∧ W.cell? ⟨yb, k * 4 + 3, none⟩ = some (.bool true)) := fun W hW =>
                ⟨hW, (hW.cell (p := ⟨bx, k * 4 + 1, none⟩) hbx').trans x1', (hW.cell (p := ⟨bx, k * 4 + 3, none⟩) hbx').trans x3', (hW.cell (p := ⟨yb, k * 4 + 1, none⟩) hby').trans y1', (hW.cell (p := ⟨yb, k * 4 + 3, none⟩) hby').trans y3'⟩
              have MK := hide mk
              have M2 := hide trivial
              clear mk
              go_wp2
              go_region_held3 (fun W => Below W3.heap.size W3 W ∧ W.cell? ⟨bx, k * 4 + 1, none⟩ = some (.int .i32 (e.2.1 : Int)) ∧ W.cell? ⟨bx, k * 4 + 3, none⟩ = some (.bool true) ∧ W.cell? ⟨yb, k * 4 + 1, none⟩ = some (.int .i32 (f.2.1 : Int)) ∧ W.cell? ⟨yb, k * 4 + 3, none⟩ = some (.bool true)) (first | exact MK.out _ (Below.refl _ _).drew | exact MK.out _ hW5 | exact MK.out _ hW6) (first | (clear M2; go_at_call 18; refine (KFX.out _).mono ?_; rintro e w5 ⟨rfl, hB5⟩; have hW5 := bseq (Below.refl _ _).drew hB5) | (go_at_call 18; refine (KFY.out _).mono ?_; rintro e w6 ⟨rfl, hB6⟩; have hW6 := bseq hW5 hB6))
              go_wp2
              go_ret
              exact ⟨rfl, bseq HB.out (bseq hBr' hW6)⟩
          | false =>
            rw [hre] at x3 hke
            rw [hrf] at y3 hkf
            have hR := hat (by rw [hke, hkf]; simp)
            subst hR
            clear hat hst hke hkf hre hrf hgx hgy
            go_wp2
            go_quiet (fail)
            go_wp2
            go_ret
            exact ⟨rfl, bseq HB.out (below_drewN hBr _)⟩
        | false =>
          cases hrf : rightE f with
          | true =>
            rw [hre] at x3 hke
            rw [hrf] at y3 hkf
            have hR := hat (by rw [hke, hkf]; simp)
            subst hR
            clear hat hst hke hkf hre hrf hgx hgy
            go_wp2
            go_quiet (fail)
            go_wp2
            go_ret
            exact ⟨rfl, bseq HB.out (below_drewN hBr _)⟩
          | false =>
            rw [hre] at x3 hke
            rw [hrf] at y3 hkf
            simp only [Bool.false_eq_true, if_false] at hke hkf
            by_cases hbb : by' (bl a) e.1 = by' (bl b) f.1
            · have HST := hide (hst (by rw [hke, hkf, hbb]))
              have hq : (((a[e.1]'hlx).toNat : Int) != ((b[f.1]'hly).toNat : Int)) = false := by rw [← hgx, ← hgy, hbb]; simp
              clear hat hst hke hkf hre hrf hgx hgy hbb
              go_wp2
              go_quiet (fail)
              have x0' : (wr.drewN nq).cell? ⟨bx, k * 4, none⟩ = some (.int .i64 (e.1 : Int)) := x0
              have x1' : (wr.drewN nq).cell? ⟨bx, k * 4 + 1, none⟩ = some (.int .i32 (e.2.1 : Int)) := x1
              have x3' : (wr.drewN nq).cell? ⟨bx, k * 4 + 3, none⟩ = some (.bool false) := x3
              have y0' : (wr.drewN nq).cell? ⟨yb, k * 4, none⟩ = some (.int .i64 (f.1 : Int)) := y0
              have y1' : (wr.drewN nq).cell? ⟨yb, k * 4 + 1, none⟩ = some (.int .i32 (f.2.1 : Int)) := y1
              have y3' : (wr.drewN nq).cell? ⟨yb, k * 4 + 3, none⟩ = some (.bool false) := y3
              have hBr' : Below w2.heap.size w2 (wr.drewN nq) := below_drewN hBr _
              have hbx' : bx < (wr.drewN nq).heap.size := hbx
              have hby' : yb < (wr.drewN nq).heap.size := hby
              generalize wr.drewN nq = W3 at *
              clear x0 x1 x3 y0 y1 y3 hBr hbx hby
              go_wp2
              go_quiet (fail)
              have x0'' : (W3.drewN nq).cell? ⟨bx, k * 4, none⟩ = some (.int .i64 (e.1 : Int)) := x0'
              have x1'' : (W3.drewN nq).cell? ⟨bx, k * 4 + 1, none⟩ = some (.int .i32 (e.2.1 : Int)) := x1'
              have x3'' : (W3.drewN nq).cell? ⟨bx, k * 4 + 3, none⟩ = some (.bool false) := x3'
              have y0'' : (W3.drewN nq).cell? ⟨yb, k * 4, none⟩ = some (.int .i64 (f.1 : Int)) := y0'
              have y1'' : (W3.drewN nq).cell? ⟨yb, k * 4 + 1, none⟩ = some (.int .i32 (f.2.1 : Int)) := y1'
              have y3'' : (W3.drewN nq).cell? ⟨yb, k * 4 + 3, none⟩ = some (.bool false) := y3'
              have hBr'' : Below w2.heap.size w2 (W3.drewN nq) := below_drewN hBr' _
              have hbx'' : bx < (W3.drewN nq).heap.size := hbx'
              have hby'' : yb < (W3.drewN nq).heap.size := hby'
              generalize W3.drewN nq = W4 at *
              clear x0' x1' x3' y0' y1' y3' hBr' hbx' hby'
              go_wp2
              go_quiet (fail)
              go_wp2
              go_roundw
              case rel => exact ⟨k + 1, by go_num, by omega, HST.out, below_drewN hBr'' _⟩
              case measure => simp [intOf]; omega
            · have hR := hat (by rw [hke, hkf]; intro h; simp at h; exact hbb (by omega))
              subst hR
              have hq : (((a[e.1]'hlx).toNat : Int) != ((b[f.1]'hly).toNat : Int)) = true := by rw [← hgx, ← hgy]; simp; omega
              clear hat hst hke hkf hre hrf hgx hgy hbb
              go_wp2
              go_quiet (fail)
              have x0' : (wr.drewN nq).cell? ⟨bx, k * 4, none⟩ = some (.int .i64 (e.1 : Int)) := x0
              have x1' : (wr.drewN nq).cell? ⟨bx, k * 4 + 1, none⟩ = some (.int .i32 (e.2.1 : Int)) := x1
              have x3' : (wr.drewN nq).cell? ⟨bx, k * 4 + 3, none⟩ = some (.bool false) := x3
              have y0' : (wr.drewN nq).cell? ⟨yb, k * 4, none⟩ = some (.int .i64 (f.1 : Int)) := y0
              have y1' : (wr.drewN nq).cell? ⟨yb, k * 4 + 1, none⟩ = some (.int .i32 (f.2.1 : Int)) := y1
              have y3' : (wr.drewN nq).cell? ⟨yb, k * 4 + 3, none⟩ = some (.bool false) := y3
              have hBr' : Below w2.heap.size w2 (wr.drewN nq) := below_drewN hBr _
              have hbx' : bx < (wr.drewN nq).heap.size := hbx
              have hby' : yb < (wr.drewN nq).heap.size := hby
              generalize wr.drewN nq = W3 at *
              clear x0 x1 x3 y0 y1 y3 hBr hbx hby
              go_wp2
              go_quiet (fail)
              have x0'' : (W3.drewN nq).cell? ⟨bx, k * 4, none⟩ = some (.int .i64 (e.1 : Int)) := x0'
              have x1'' : (W3.drewN nq).cell? ⟨bx, k * 4 + 1, none⟩ = some (.int .i32 (e.2.1 : Int)) := x1'
              have x3'' : (W3.drewN nq).cell? ⟨bx, k * 4 + 3, none⟩ = some (.bool false) := x3'
              have y0'' : (W3.drewN nq).cell? ⟨yb, k * 4, none⟩ = some (.int .i64 (f.1 : Int)) := y0'
              have y1'' : (W3.drewN nq).cell? ⟨yb, k * 4 + 1, none⟩ = some (.int .i32 (f.2.1 : Int)) := y1'
              have y3'' : (W3.drewN nq).cell? ⟨yb, k * 4 + 3, none⟩ = some (.bool false) := y3'
              have hBr'' : Below w2.heap.size w2 (W3.drewN nq) := below_drewN hBr' _
              have hbx'' : bx < (W3.drewN nq).heap.size := hbx'
              have hby'' : yb < (W3.drewN nq).heap.size := hby'
              generalize W3.drewN nq = W4 at *
              clear x0' x1' x3' y0' y1' y3' hBr' hbx' hby'
              go_wp2
              go_quiet (fail)
              go_wp2
              go_ret
              exact ⟨rfl, bseq HB.out (below_drewN hBr'' _)⟩
      · have hltI : (m : Int) ≤ (k : Int) := by omega
        have hR := HALL.out (fun j e f h1 h2 => hJ j e f (by have := (List.getElem?_eq_some_iff.1 h1).1; rw [HM.out] at this; omega) h1 h2)
        subst hR
        clear hJ
        go_wp2
        go_ret
        exact ⟨rfl, bseq HB.out hBr⟩
  · rw [alike_len hl]
    obtain ⟨m, hm⟩ : ∃ m, (Cs 0 (bl a)).length = m := ⟨_, rfl⟩
    obtain ⟨n, hn⟩ : ∃ n, (Cs 0 (bl b)).length = n := ⟨_, rfl⟩
    rw [hm] at hl hla kx
    rw [hn] at hl hlb ky
    have hlI : ((m : Int) != (n : Int)) = true := by simp; omega
    have KX := hide kx
    have KY := hide ky
    clear kx ky hm hn hl
    go_enter Try.func20, Try.ntmps20
    go_wp2_with (first | (clear M1; go_at_call 35; refine (KX.out _).mono ?_; rintro e w1 ⟨ax, cx, rfl, hsx, hB1⟩) | (go_at_call 35; refine (KY.out _).mono ?_; rintro e w2 ⟨ay, cy, rfl, hsy, hB2⟩))
    go_ret
    exact ⟨rfl, bseq hB1 hB2⟩
end Go.Proofs.Ytobemmfgpjgiaaa
