/- What the document's Chars, Count, At, Of and Begins answer. -/
import Derived.Test.YtfiocfhehofheaaURef2
import Derived.Test.YtfiocfhehofheaaUOrdM
import Derived.Test.YtfiocfhehofheaaURun
import Derived.OwnWalk
import Derived.WalkSmall
namespace Go.Proofs.Ytfiocfhehofheaa
open Go.RowKit
set_option linter.unusedVariables false

/-- A character's four cells. -/
def rightE (e : Nat × Nat × Nat) : Bool := decide (1 < e.2.2) || decide (e.2.1 ≠ 65533)
def cell4 (e : Nat × Nat × Nat) : List Value := [.int .i64 (e.1 : Int), .int .i32 (e.2.1 : Int), .int .i64 (e.2.2 : Int), .bool (rightE e)]
def cells4 (l : List (Nat × Nat × Nat)) : List Value := l.flatMap cell4
theorem cells4_len (l : List (Nat × Nat × Nat)) : (cells4 l).length = l.length * 4 := by
  induction l with
  | nil => rfl
  | cons e l ih => unfold cells4 at *; rw [List.flatMap_cons, List.length_append, ih]; simp [cell4]; omega
theorem cells4_snoc (l : List (Nat × Nat × Nat)) (e : Nat × Nat × Nat) : cells4 (l ++ [e]) = cells4 l ++ cell4 e := by unfold cells4; simp
theorem cells4_at (l : List (Nat × Nat × Nat)) : ∀ (i : Nat) (e : Nat × Nat × Nat), l[i]? = some e → ∀ j, j < 4 → (cells4 l)[4 * i + j]? = (cell4 e)[j]? := by
  induction l with
  | nil => intro i e h; simp at h
  | cons x l ih =>
    intro i e h j hj
    have hx : cells4 (x :: l) = cell4 x ++ cells4 l := by unfold cells4; rw [List.flatMap_cons]
    rw [hx]
    cases i with
    | zero =>
      simp at h
      subst h
      rw [List.getElem?_append_left (by simp [cell4]; omega)]
      simp
    | succ i =>
      simp at h
      rw [List.getElem?_append_right (by simp [cell4]; omega), ← ih i e h j hj]
      congr 1
      simp [cell4]
      omega

/-- What a slice of characters holds. -/
def SlC (w : World) (a : Option Addr) (cs : List (Nat × Nat × Nat)) : Prop :=
  cs = [] ∨ ∃ b, a = some ⟨b, 0, none⟩ ∧ b < w.heap.size ∧ ∀ (i : Nat) (e : Nat × Nat × Nat), cs[i]? = some e →
    w.cell? ⟨b, i * 4, none⟩ = some (.int .i64 (e.1 : Int)) ∧ w.cell? ⟨b, i * 4 + 1, none⟩ = some (.int .i32 (e.2.1 : Int)) ∧ w.cell? ⟨b, i * 4 + 2, none⟩ = some (.int .i64 (e.2.2 : Int)) ∧ w.cell? ⟨b, i * 4 + 3, none⟩ = some (.bool (rightE e))
theorem SlC.below {w w' : World} {a : Option Addr} {cs : List (Nat × Nat × Nat)} (h : SlC w a cs) (hb : Below w.heap.size w w') : SlC w' a cs := by
  rcases h with h | ⟨b, ha, hl, hs⟩
  · exact .inl h
  · refine .inr ⟨b, ha, Nat.lt_of_lt_of_le hl hb.size, fun i e he => ?_⟩
    obtain ⟨h1, h2, h3, h4⟩ := hs i e he
    exact ⟨(hb.cell (p := ⟨b, i * 4, none⟩) hl).trans h1, (hb.cell (p := ⟨b, i * 4 + 1, none⟩) hl).trans h2, (hb.cell (p := ⟨b, i * 4 + 2, none⟩) hl).trans h3, (hb.cell (p := ⟨b, i * 4 + 3, none⟩) hl).trans h4⟩
theorem slc_of_owns {W : World} {base : Nat} {v : Value} {cs : List (Nat × Nat × Nat)} (h : W.ownsRow base 29 4 v cs.length (cells4 cs)) : ∃ a cap, v = .slice a cs.length cap ∧ SlC W a cs := by
  rcases h.2 with ⟨rfl, h0⟩ | ⟨g, cap, cur, rfl, _, hg, hn, _, hs, hc⟩
  · exact ⟨none, 0, by rw [h0], .inl (List.eq_nil_of_length_eq_zero h0)⟩
  · refine ⟨_, cap, rfl, .inr ⟨g, rfl, (Array.getElem?_eq_some_iff.1 hg).1, fun i e he => ?_⟩⟩
    have hi : i < cs.length := (List.getElem?_eq_some_iff.1 he).1
    have key : ∀ j, j < 4 → W.cell? ⟨g, i * 4 + j, none⟩ = (cell4 e)[j]? := by
      intro j hj
      have h1 := cells4_at cs i e he j hj
      rw [← hc, List.getElem?_take, if_pos (by omega)] at h1
      simp only [World.cell?, hg]
      rw [show i * 4 + j = 4 * i + j by omega]
      simpa using h1
    exact ⟨key 0 (by omega), key 1 (by omega), key 2 (by omega), key 3 (by omega)⟩

theorem Try.infoC : (Try.prog.info? 29).map (fun i => (i.zero, i.size, i.bytes)) = some (some (.agg #[.int .i64 0, .int .i32 0, .int .i64 0, .bool false]), 4, 32) := by kernel_rfl
theorem cell_four_new (w : World) (a b c d : Value) (t : TypeId) : ∀ j u, [a, b, c, d][j]? = some u → (w.alloc (.cells #[a, b, c, d] t)).cell? ((⟨w.heap.size, 0, none⟩ : Addr).add j) = some u := by
  intro j u hj
  match j, hj with
  | 0, hj => simp at hj; subst hj; simp [Addr.add]
  | 1, hj => simp at hj; subst hj; simp [Addr.add]
  | 2, hj => simp at hj; subst hj; simp [Addr.add]
  | 3, hj => simp at hj; subst hj; simp [Addr.add]
  | j + 4, hj => simp at hj

theorem rightE_at (l : List UInt8) (p : Nat) : rightE (p, rune l, cw l) = decide (W l ≠ 0) := by
  rw [← right_eq]
  unfold rightE
  have := cw_pos l
  rw [Bool.eq_iff_iff]
  simp only [Bool.or_eq_true, Bool.and_eq_true, decide_eq_true_eq]
  constructor
  · rintro (h | h)
    · exact .inl h
    · by_cases h1 : cw l = 1
      · exact .inr ⟨h1, h⟩
      · exact .inl (by omega)
  · rintro (h | h)
    · exact .inl h
    · exact .inr h.2

set_option maxRecDepth 100000 in
set_option maxHeartbeats 1000000 in
theorem chars_any (s : ByteArray) (w : World) (hs : s.size ≤ 1048576) :
    Calls Try.prog 7 #[.string s] w fun e w' => ∃ a cap, e = .returned (.slice a (Cs 0 (bl s)).length cap) ∧ SlC w' a (Cs 0 (bl s)) ∧ Below w.heap.size w w' := by
  obtain ⟨i0, hi, hz0, hz1, hz2⟩ := info_parts Try.infoC
  go_enter Try.func7, Try.ntmps7
  go_wp2
  go_loopw [3, 4] (fun v q wr => ∃ pos k : Nat, q = .int .i64 pos ∧ k ≤ pos ∧ pos ≤ s.size ∧ Inv (bl s) pos k ∧ wr.ownsRow w.heap.size 29 4 v k (cells4 ((Cs 0 (bl s)).take k)) ∧ Below w.heap.size w wr) (fun _ q _ => s.size - (intOf q).toNat)
  case atStart => exact ⟨0, 0, rfl, by omega, by omega, Inv.start _, World.ownsRow_nil _ _ _ _, Below.refl _ _⟩
  case round =>
    obtain ⟨pos, k, rfl, hkp, hps, hI, hown, hB⟩ := hrel
    by_cases hlt : pos < s.size
    · have hlt' : (pos : Int) < (s.size : Int) := by omega
      have hfv := firstV_ne (bl_drop_ne hlt)
      have kf := fun w => refFirst_any (s.extract pos s.size) w (by rw [ByteArray.size_extract]; omega)
      rw [bl_from, hfv, ← rightE_at _ pos] at kf
      have hh := hI.here (by rw [bl_len]; exact hlt)
      have hst := hI.step (by rw [bl_len]; exact hlt)
      have h1 := cw_pos ((bl s).drop pos)
      have h2 := cw_len _ (bl_drop_ne hlt)
      rw [List.length_drop, bl_len] at h2
      have h4 := cw_le4 ((bl s).drop pos)
      generalize hr : rune ((bl s).drop pos) = r at *
      generalize hc : cw ((bl s).drop pos) = c at *
      generalize hg : rightE (pos, r, c) = g at *
      have KF := hide kf
      have HH := hide hh
      have HST := hide hst
      have HI := hide hI
      have HB := hide hB
      have HG := hide hg
      clear kf hh hst hI hB hfv hr hc hg
      go_wp2_with (first | (go_at_call 26; refine (KF.out _).mono ?_; rintro e w1 ⟨rfl, hB1⟩) | (at_builtin; refine wpList_append_own _ rfl _ _ 23 rfl w.heap.size 29 i0 (.agg #[.int .i64 0, .int .i32 0, .int .i64 0, .bool false]) 4 32 Try.underlying23 hi hz0 hz1 hz2 rfl (by omega) _ _ _ rfl ((ownsRow_below hown hB1).alloc _) ⟨w1.heap.size, 0, none⟩ 1 1 [.int .i64 (pos : Int), .int .i32 (r : Int), .int .i64 (c : Int), .bool g] rfl rfl (cell_four_new _ _ _ _ _ _) (by simp [Value.oneCell']) (by unfold maxLen; omega) (by omega) (by have := HB.out.size; have := hB1.size; simp; omega) ?_; intro v' w2 hown' hgrow _))
      go_roundw
      case rel =>
        refine ⟨pos + c, k + 1, by go_num, by omega, by omega, HST.out, ?_, ?_⟩
        · rw [List.take_add_one, HH.out]
          simp only [Option.toList_some]
          rw [cells4_snoc]
          have e : cell4 (pos, r, c) = [.int .i64 (pos : Int), .int .i32 (r : Int), .int .i64 (c : Int), .bool g] := by unfold cell4; rw [HG.out]
          rw [e]
          exact hown'
        · exact ((bseq HB.out hB1).alloc (bseq HB.out hB1).size _).grown hgrow (by have := HB.out.size; have := hB1.size; simp; omega) (fun j e => (hown.lt j e).1)
      case measure => simp [intOf]; omega
    · have hpp : (s.size : Int) ≤ (pos : Int) := by omega
      have hk := hI.fin (by rw [bl_len]; omega)
      have HK := hide hk
      have HB := hide hB
      have HO := hide hown
      clear hk hB hI hown
      go_wp2
      go_ret
      have h1 := HO.out
      rw [HK.out, List.take_length] at h1
      obtain ⟨a, cap, rfl, hsl⟩ := slc_of_owns h1
      exact ⟨a, cap, rfl, hsl, HB.out⟩

/-- The number of the last one that begins at a place or ahead of it. -/
def lastLe (L : List (Nat × Nat × Nat)) (i : Int) (m : Nat) : Nat := match m with
  | 0 => 0
  | m + 1 => match L[m]? with | some e => if (e.1 : Int) ≤ i then m else lastLe L i m | none => lastLe L i m
theorem lastLe_of (l : List UInt8) (i : Nat) (hi : i < l.length) : (lastLe (Cs 0 l) i (Cs 0 l).length : Int) = (ofN l i : Int) - 1 := by
  obtain ⟨j, ⟨e, he, rfl⟩, h1, h2⟩ := St_cover l i hi
  obtain ⟨k, hk⟩ := List.getElem?_of_mem he
  have hl := Cs_lt hk
  rw [← hl.2.2.2.2.2] at h2
  rw [ofN_at hk h1 h2]
  have hkl := (List.getElem?_eq_some_iff.1 hk).1
  have key : ∀ m, k < m → m ≤ (Cs 0 l).length → lastLe (Cs 0 l) i m = k := by
    intro m
    induction m with
    | zero => intro h; omega
    | succ m ih =>
      intro h hm
      obtain ⟨f, hf⟩ : ∃ f, (Cs 0 l)[m]? = some f := ⟨_, List.getElem?_eq_getElem (by omega)⟩
      unfold lastLe
      rw [hf]
      by_cases hmk : m = k
      · subst hmk
        rw [hk] at hf
        cases hf
        show (if (e.1 : Int) ≤ (i : Int) then m else _) = m
        rw [if_pos (by omega)]
      · have := Cs_two hk hf (by omega)
        show (if (f.1 : Int) ≤ (i : Int) then m else _) = k
        rw [if_neg (by omega)]
        exact ih (by omega) (by omega)
  rw [key _ hkl (Nat.le_refl _)]
  omega

end Go.Proofs.Ytfiocfhehofheaa
