/- Package seek, the statements' own: is a character of a part's kind; where a character begins. -/
import Derived.Test.YtedfnppekikcpaaURunJoined
import Derived.Test.YtedfnppekikcpaaUOrdM
import Derived.OwnWalk
import Derived.WalkSmall
import Derived.Test.YtedfnppekikcpaaXRowMJoined
import Derived.Test.YtedfnppekikcpaaXReadW
import Derived.Test.YtedfnppekikcpaaXRunI
import Derived.Deep.RegionWith
import Derived.Test.YtedfnppekikcpaaXFindA
import Derived.Test.YtedfnppekikcpaaXMatch
import Derived.Deep.QuietTactic
import Derived.BigQuiet
namespace Go.Proofs.Ytedfnppekikcpaa
open Go.RowKit
set_option linter.unusedVariables false

/-- A character's four cells. -/
def rightE (e : Nat × Nat × Nat) : Bool := decide (1 < e.2.2) || decide (e.2.1 ≠ 65533)
def cell4 (e : Nat × Nat × Nat) : List Value := [.int .i64 (e.1 : Int), .int .i32 (e.2.1 : Int), .int .i64 (e.2.2 : Int), .bool (rightE e)]
def cells4 (l : List (Nat × Nat × Nat)) : List Value := l.flatMap cell4
theorem cells4_len (l : List (Nat × Nat × Nat)) : (cells4 l).length = l.length * 4 := by
  induction l with
  | nil => rfl
  | cons e l ih => unfold cells4 at *; rw [List.flatMap_cons, List.length_append, ih]; simp [cell4]; omega
theorem cells4_snoc (l : List (Nat × Nat × Nat)) (e : Nat × Nat × Nat) : cells4 (l ++ [e]) = cells4 l ++ cell4 e := by unfold cells4; simp
theorem cells4_at (l : List (Nat × Nat × Nat)) : ∀ (i : Nat) (e : Nat × Nat × Nat), l[i]? = some e → ∀ j, j < 4 → (cells4 l)[4 * i + j]? = (cell4 e)[j]? := by
  induction l with
  | nil => intro i e h; simp at h
  | cons x l ih =>
    intro i e h j hj
    have hx : cells4 (x :: l) = cell4 x ++ cells4 l := by unfold cells4; rw [List.flatMap_cons]
    rw [hx]
    cases i with
    | zero =>
      simp at h
      subst h
      rw [List.getElem?_append_left (by simp [cell4]; omega)]
      simp
    | succ i =>
      simp at h
      rw [List.getElem?_append_right (by simp [cell4]; omega), ← ih i e h j hj]
      congr 1
      simp [cell4]
      omega

/-- What a slice of characters holds. -/
def SlC (w : World) (a : Option Addr) (cs : List (Nat × Nat × Nat)) : Prop :=
  cs = [] ∨ ∃ b, a = some ⟨b, 0, none⟩ ∧ b < w.heap.size ∧ ∀ (i : Nat) (e : Nat × Nat × Nat), cs[i]? = some e →
    w.cell? ⟨b, i * 4, none⟩ = some (.int .i64 (e.1 : Int)) ∧ w.cell? ⟨b, i * 4 + 1, none⟩ = some (.int .i32 (e.2.1 : Int)) ∧ w.cell? ⟨b, i * 4 + 2, none⟩ = some (.int .i64 (e.2.2 : Int)) ∧ w.cell? ⟨b, i * 4 + 3, none⟩ = some (.bool (rightE e))
theorem SlC.below {w w' : World} {a : Option Addr} {cs : List (Nat × Nat × Nat)} (h : SlC w a cs) (hb : Below w.heap.size w w') : SlC w' a cs := by
  rcases h with h | ⟨b, ha, hl, hs⟩
  · exact .inl h
  · refine .inr ⟨b, ha, Nat.lt_of_lt_of_le hl hb.size, fun i e he => ?_⟩
    obtain ⟨h1, h2, h3, h4⟩ := hs i e he
    exact ⟨(hb.cell (p := ⟨b, i * 4, none⟩) hl).trans h1, (hb.cell (p := ⟨b, i * 4 + 1, none⟩) hl).trans h2, (hb.cell (p := ⟨b, i * 4 + 2, none⟩) hl).trans h3, (hb.cell (p := ⟨b, i * 4 + 3, none⟩) hl).trans h4⟩
theorem slc_of_owns {W : World} {base : Nat} {v : Value} {cs : List (Nat × Nat × Nat)} (h : W.ownsRow base 59 4 v cs.length (cells4 cs)) : ∃ a cap, v = .slice a cs.length cap ∧ SlC W a cs := by
  rcases h.2 with ⟨rfl, h0⟩ | ⟨g, cap, cur, rfl, _, hg, hn, _, hs, hc⟩
  · exact ⟨none, 0, by rw [h0], .inl (List.eq_nil_of_length_eq_zero h0)⟩
  · refine ⟨_, cap, rfl, .inr ⟨g, rfl, (Array.getElem?_eq_some_iff.1 hg).1, fun i e he => ?_⟩⟩
    have hi : i < cs.length := (List.getElem?_eq_some_iff.1 he).1
    have key : ∀ j, j < 4 → W.cell? ⟨g, i * 4 + j, none⟩ = (cell4 e)[j]? := by
      intro j hj
      have h1 := cells4_at cs i e he j hj
      rw [← hc, List.getElem?_take, if_pos (by omega)] at h1
      simp only [World.cell?, hg]
      rw [show i * 4 + j = 4 * i + j by omega]
      simpa using h1
    exact ⟨key 0 (by omega), key 1 (by omega), key 2 (by omega), key 3 (by omega)⟩

theorem Try.infoC : (Try.prog.info? 59).map (fun i => (i.zero, i.size, i.bytes)) = some (some (.agg #[.int .i64 0, .int .i32 0, .int .i64 0, .bool false]), 4, 32) := by kernel_rfl
theorem cell_four_new (w : World) (a b c d : Value) (t : TypeId) : ∀ j u, [a, b, c, d][j]? = some u → (w.alloc (.cells #[a, b, c, d] t)).cell? ((⟨w.heap.size, 0, none⟩ : Addr).add j) = some u := by
  intro j u hj
  match j, hj with
  | 0, hj => simp at hj; subst hj; simp [Addr.add]
  | 1, hj => simp at hj; subst hj; simp [Addr.add]
  | 2, hj => simp at hj; subst hj; simp [Addr.add]
  | 3, hj => simp at hj; subst hj; simp [Addr.add]
  | j + 4, hj => simp at hj

theorem rightE_at (l : List UInt8) (p : Nat) : rightE (p, rune l, cw l) = decide (W l ≠ 0) := by
  rw [← right_eq]
  unfold rightE
  have := cw_pos l
  rw [Bool.eq_iff_iff]
  simp only [Bool.or_eq_true, Bool.and_eq_true, decide_eq_true_eq]
  constructor
  · rintro (h | h)
    · exact .inl h
    · by_cases h1 : cw l = 1
      · exact .inr ⟨h1, h⟩
      · exact .inl (by omega)
  · rintro (h | h)
    · exact .inl h
    · exact .inr h.2

set_option maxRecDepth 100000 in
set_option maxHeartbeats 1000000 in
theorem chars_any (s : ByteArray) (w : World) (hs : s.size ≤ 1048576) :
    Calls Try.prog 7 #[.string s] w fun e w' => ∃ a cap, e = .returned (.slice a (Cs 0 (bl s)).length cap) ∧ SlC w' a (Cs 0 (bl s)) ∧ Below w.heap.size w w' := by
  obtain ⟨i0, hi, hz0, hz1, hz2⟩ := info_parts Try.infoC
  go_enter Try.func7, Try.ntmps7
  go_wp2
  go_loopw [3, 4] (fun v q wr => ∃ pos k : Nat, q = .int .i64 pos ∧ k ≤ pos ∧ pos ≤ s.size ∧ Inv (bl s) pos k ∧ wr.ownsRow w.heap.size 59 4 v k (cells4 ((Cs 0 (bl s)).take k)) ∧ Below w.heap.size w wr) (fun _ q _ => s.size - (intOf q).toNat)
  case atStart => exact ⟨0, 0, rfl, by omega, by omega, Inv.start _, World.ownsRow_nil _ _ _ _, Below.refl _ _⟩
  case round =>
    obtain ⟨pos, k, rfl, hkp, hps, hI, hown, hB⟩ := hrel
    by_cases hlt : pos < s.size
    · have hlt' : (pos : Int) < (s.size : Int) := by omega
      have hfv := firstV_ne (bl_drop_ne hlt)
      have kf := fun w => refFirst_any (s.extract pos s.size) w (by rw [ByteArray.size_extract]; omega)
      rw [bl_from, hfv, ← rightE_at _ pos] at kf
      have hh := hI.here (by rw [bl_len]; exact hlt)
      have hst := hI.step (by rw [bl_len]; exact hlt)
      have h1 := cw_pos ((bl s).drop pos)
      have h2 := cw_len _ (bl_drop_ne hlt)
      rw [List.length_drop, bl_len] at h2
      have h4 := cw_le4 ((bl s).drop pos)
      generalize hr : rune ((bl s).drop pos) = r at *
      generalize hc : cw ((bl s).drop pos) = c at *
      generalize hg : rightE (pos, r, c) = g at *
      have KF := hide kf
      have HH := hide hh
      have HST := hide hst
      have HI := hide hI
      have HB := hide hB
      have HG := hide hg
      clear kf hh hst hI hB hfv hr hc hg
      go_wp2_with (first | (go_at_call 17; refine (KF.out _).mono ?_; rintro e w1 ⟨rfl, hB1⟩) | (at_builtin; refine wpList_append_own _ rfl _ _ 31 rfl w.heap.size 59 i0 (.agg #[.int .i64 0, .int .i32 0, .int .i64 0, .bool false]) 4 32 Try.underlying31 hi hz0 hz1 hz2 rfl (by omega) _ _ _ rfl ((ownsRow_below hown hB1).alloc _) ⟨w1.heap.size, 0, none⟩ 1 1 [.int .i64 (pos : Int), .int .i32 (r : Int), .int .i64 (c : Int), .bool g] rfl rfl (cell_four_new _ _ _ _ _ _) (by simp [Value.oneCell']) (by unfold maxLen; omega) (by omega) (by have := HB.out.size; have := hB1.size; simp; omega) ?_; intro v' w2 hown' hgrow _))
      go_roundw
      case rel =>
        refine ⟨pos + c, k + 1, by go_num, by omega, by omega, HST.out, ?_, ?_⟩
        · rw [List.take_add_one, HH.out]
          simp only [Option.toList_some]
          rw [cells4_snoc]
          have e : cell4 (pos, r, c) = [.int .i64 (pos : Int), .int .i32 (r : Int), .int .i64 (c : Int), .bool g] := by unfold cell4; rw [HG.out]
          rw [e]
          exact hown'
        · exact ((bseq HB.out hB1).alloc (bseq HB.out hB1).size _).grown hgrow (by have := HB.out.size; have := hB1.size; simp; omega) (fun j e => (hown.lt j e).1)
      case measure => simp [intOf]; omega
    · have hpp : (s.size : Int) ≤ (pos : Int) := by omega
      have hk := hI.fin (by rw [bl_len]; omega)
      have HK := hide hk
      have HB := hide hB
      have HO := hide hown
      clear hk hB hI hown
      go_wp2
      go_ret
      have h1 := HO.out
      rw [HK.out, List.take_length] at h1
      obtain ⟨a, cap, rfl, hsl⟩ := slc_of_owns h1
      exact ⟨a, cap, rfl, hsl, HB.out⟩

/-- The number of the last one that begins at a place or ahead of it. -/
def lastLe (L : List (Nat × Nat × Nat)) (i : Int) (m : Nat) : Nat := match m with
  | 0 => 0
  | m + 1 => match L[m]? with | some e => if (e.1 : Int) ≤ i then m else lastLe L i m | none => lastLe L i m
theorem lastLe_of (l : List UInt8) (i : Nat) (hi : i < l.length) : (lastLe (Cs 0 l) i (Cs 0 l).length : Int) = (ofN l i : Int) - 1 := by
  obtain ⟨j, ⟨e, he, rfl⟩, h1, h2⟩ := St_cover l i hi
  obtain ⟨k, hk⟩ := List.getElem?_of_mem he
  have hl := Cs_lt hk
  rw [← hl.2.2.2.2.2] at h2
  rw [ofN_at hk h1 h2]
  have hkl := (List.getElem?_eq_some_iff.1 hk).1
  have key : ∀ m, k < m → m ≤ (Cs 0 l).length → lastLe (Cs 0 l) i m = k := by
    intro m
    induction m with
    | zero => intro h; omega
    | succ m ih =>
      intro h hm
      obtain ⟨f, hf⟩ : ∃ f, (Cs 0 l)[m]? = some f := ⟨_, List.getElem?_eq_getElem (by omega)⟩
      unfold lastLe
      rw [hf]
      by_cases hmk : m = k
      · subst hmk
        rw [hk] at hf
        cases hf
        show (if (e.1 : Int) ≤ (i : Int) then m else _) = m
        rw [if_pos (by omega)]
      · have := Cs_two hk hf (by omega)
        show (if (f.1 : Int) ≤ (i : Int) then m else _) = k
        rw [if_neg (by omega)]
        exact ih (by omega) (by omega)
  rw [key _ hkl (Nat.le_refl _)]
  omega

end Go.Proofs.Ytedfnppekikcpaa
namespace Go.Proofs.Ytedfnppekikcpaa
open Go.RowKit Go.Shelf
set_option linter.unusedVariables false
set_option linter.unusedSimpArgs false

/-- Is a character of the part's kind? -/
def fitE (b : Bt) (e : Nat × Nat × Nat) : Bool := if b.2.1 = true then (!rightE e || !endK (e.2.1 : Int)) else (rightE e && decide ((e.2.1 : Int) = b.1))
theorem rightE_W (a : Nat) (u : List UInt8) : rightE (a, rune u, cw u) = decide (W u ≠ 0) := by
  unfold rightE rune cw
  by_cases h0 : W u = 0
  · rw [h0]
    simp [num]
  · rw [if_neg h0]
    by_cases h1 : W u = 1
    · have h2 : by' u 0 < 128 := wd_1.1 h1
      rw [h1]
      have h3 : num 1 (by' u 0) (by' u 1) (by' u 2) (by' u 3) = by' u 0 := rfl
      simp only [h3]
      rw [decide_eq_true (by omega : by' u 0 ≠ 65533)]
      simp
    · rw [decide_eq_true (by omega : 1 < W u), Bool.true_or]
      exact (decide_eq_true h0).symm
theorem fitE_eq (b : Bt) (a : Nat) (u : List UInt8) (hu : u ≠ []) : fitE b (a, rune u, cw u) = fitP b (ch1 u) := by
  unfold fitE fitP ch1
  rw [if_neg hu, rightE_W]
  by_cases h0 : W u = 0
  · rw [if_pos h0, decide_eq_false (by simpa using h0)]
    split
    · simp [endP]
    · simp [oneP]
  · rw [if_neg h0, decide_eq_true h0]
    split
    · simp [endP]
    · simp [oneP]
/-- The rows, by what fits. -/
def rowsE (n : Nat) : List (Nat × (Nat → Bool)) → Nat → Bool
  | [], k => decide (k = n)
  | b :: bs, k => nxR b.1 b.2 (rowsE n bs) (n - k) k
theorem rowsE_R (ch : Nat → Ch) (n : Nat) : ∀ (bs : List (Nat × (Ch → Bool))) (k : Nat), rowsR ch n bs k = rowsE n (bs.map fun b => (b.1, fun m => b.2 (ch m))) k
  | [], k => rfl
  | b :: bs, k => by
    rw [List.map_cons, rowsR, rowsE]
    have : rowsR ch n bs = rowsE n (bs.map fun b => (b.1, fun m => b.2 (ch m))) := funext fun k => rowsE_R ch n bs k
    rw [this]
theorem nxR_congr {how : Nat} {ft ft' row row' : Nat → Bool} : ∀ (d k : Nat), (∀ m, k ≤ m → m < k + d → ft m = ft' m) → (∀ m, k ≤ m → m ≤ k + d → row m = row' m) → nxR how ft row d k = nxR how ft' row' d k
  | 0, k, _, hr => by rw [nxR, nxR, hr k (Nat.le_refl _) (Nat.le_refl _)]
  | d + 1, k, hf, hr => by
    rw [nxR, nxR, hf k (Nat.le_refl _) (by omega), hr k (Nat.le_refl _) (by omega), hr (k + 1) (by omega) (by omega), nxR_congr d (k + 1) (fun m h1 h2 => hf m (by omega) (by omega)) (fun m h1 h2 => hr m (by omega) (by omega))]
theorem rowsE_congr {n : Nat} {α : Type} (h : α → Nat) (f g : α → Nat → Bool) : ∀ (bs : List α) (k : Nat), k ≤ n → (∀ b ∈ bs, ∀ m, m < n → f b m = g b m) → rowsE n (bs.map fun b => (h b, f b)) k = rowsE n (bs.map fun b => (h b, g b)) k
  | [], k, _, _ => rfl
  | b :: bs, k, hk, hb => by
    rw [List.map_cons, List.map_cons, rowsE, rowsE]
    exact nxR_congr (n - k) k (fun m h1 h2 => hb b (List.mem_cons_self ..) m (by omega)) (fun m h1 h2 => rowsE_congr h f g bs m (by omega) (fun c hc => hb c (List.mem_cons_of_mem _ hc)))
/-- Can the parts be found one behind the other, from the i-th character up to the j-th place? -/
def goR (bs : List Bt) (cs : List (Nat × Nat × Nat)) (i n : Nat) : Nat → Bool := rowsE n (bs.map fun b => (b.2.2, fun m => fitE b (cs.getD (i + m) (0, 0, 0))))
def goV (bs : List Bt) (cs : List (Nat × Nat × Nat)) (i j : Nat) : Bool := goR bs cs i (j - i) 0
theorem psI_shift (l : List UInt8) (a : Nat) : ∀ m, psI l (psI l 0 a) m = psI l 0 (a + m)
  | 0 => rfl
  | m + 1 => by
    have ih := psI_shift l a m
    have h1 : psI l (psI l 0 a) (m + 1) = psI l (psI l 0 a) m + cw1 (l.drop (psI l (psI l 0 a) m)) := rfl
    have h2 : psI l 0 (a + m + 1) = psI l 0 (a + m) + cw1 (l.drop (psI l 0 (a + m))) := rfl
    rw [h1, ih, ← Nat.add_assoc, h2]
/-- The characters of a text stand where a search comes by. -/
theorem chars_ps (l : List UInt8) : ∀ (k a i : Nat), l.length - a ≤ k → a ≤ l.length → psI l 0 i = a →
    (∀ m, m < (Cs a (l.drop a)).length → (Cs a (l.drop a))[m]? = some (psI l 0 (i + m), rune (l.drop (psI l 0 (i + m))), cw (l.drop (psI l 0 (i + m)))) ∧ wdI l 0 (i + m) ≠ 0) ∧ psI l 0 (i + (Cs a (l.drop a)).length) = l.length
  | k, a, i, hk, ha, hi => by
    by_cases e : l.drop a = []
    · rw [e, Cs_nil]
      have := List.drop_eq_nil_iff.1 e
      exact ⟨fun m hm => absurd hm (Nat.not_lt_zero _), by show psI l 0 i = l.length; omega⟩
    · have hl := cw_len _ e
      have hp := cw_pos (l.drop a)
      rw [List.length_drop] at hl
      match k, hk with
      | 0, hk => exact absurd (List.drop_eq_nil_of_le (by omega)) e
      | k + 1, hk =>
        have h1 : psI l 0 (i + 1) = psI l 0 i + cw1 (l.drop (psI l 0 i)) := rfl
        have h2 : psI l 0 (i + 1) = a + cw (l.drop a) := by rw [h1, hi]; unfold cw1; rw [if_neg e]
        obtain ⟨ih1, ih2⟩ := chars_ps l k (a + cw (l.drop a)) (i + 1) (by omega) (by omega) h2
        rw [Cs_cons a _ e, List.drop_drop]
        refine ⟨fun m hm => ?_, ?_⟩
        · match m, hm with
          | 0, _ =>
            rw [Nat.add_zero, hi]
            refine ⟨rfl, ?_⟩
            unfold wdI
            rw [hi]
            unfold cw1
            rw [if_neg e]
            omega
          | m + 1, hm =>
            rw [List.getElem?_cons_succ, show i + (m + 1) = i + 1 + m by omega]
            exact ih1 m (by simpa using hm)
        · rw [List.length_cons, show i + ((Cs (a + cw (l.drop a)) (l.drop (a + cw (l.drop a)))).length + 1) = i + 1 + (Cs (a + cw (l.drop a)) (l.drop (a + cw (l.drop a)))).length by omega]
          exact ih2
theorem cs_ps (l : List UInt8) : (∀ m, m < (Cs 0 l).length → (Cs 0 l)[m]? = some (psI l 0 m, rune (l.drop (psI l 0 m)), cw (l.drop (psI l 0 m))) ∧ wdI l 0 m ≠ 0) ∧ psI l 0 (Cs 0 l).length = l.length := by
  have := chars_ps l l.length 0 0 (by omega) (Nat.zero_le _) rfl
  rw [List.drop_zero] at this
  simpa using this
theorem nextB_spec (l : List UInt8) : ∀ (k p : Nat), p + k = l.length + 1 → p ≤ l.length → beginsV l (nextB l k p : Int) = true ∧ p ≤ nextB l k p ∧ nextB l k p ≤ l.length ∧ ∀ q, p ≤ q → q < nextB l k p → beginsV l (q : Int) = false
  | 0, p, h, hp => by omega
  | k + 1, p, h, hp => by
    rw [nextB]
    split
    · rename_i hb
      exact ⟨hb, Nat.le_refl _, hp, fun q h1 h2 => by omega⟩
    · rename_i hb
      have hne : p ≠ l.length := fun e => hb (by rw [e]; exact begins_fin l)
      obtain ⟨a, b, c, d⟩ := nextB_spec l k (p + 1) (by omega) (by omega)
      refine ⟨a, by omega, c, fun q h1 h2 => ?_⟩
      by_cases e : q = p
      · subst e; simpa using hb
      · exact d q (by omega) h2
section
variable {l : List UInt8} {bs : List Bt}
theorem pl_lt {i j : Nat} (hij : i < j) (hj : j ≤ (Cs 0 l).length) : psI l 0 i < psI l 0 j := psI_lt j hij (fun m hm => ((cs_ps l).1 m (by omega)).2)
theorem pl_le {i : Nat} (hi : i ≤ (Cs 0 l).length) : psI l 0 i ≤ l.length := psI_len (Nat.zero_le _) i
theorem pl_begins {i : Nat} (hi : i ≤ (Cs 0 l).length) : beginsV l (psI l 0 i : Int) = true := by
  rw [begins_bg (pl_le hi)]
  by_cases e : i = (Cs 0 l).length
  · rw [e, (cs_ps l).2]; exact .inl rfl
  · have := ((cs_ps l).1 i (by omega)).1
    exact .inr ⟨_, List.mem_of_getElem? this, rfl⟩
/-- From which character on places are not below a number: that at which a search up to the end begins. -/
theorem pl_from (p : Int) (hp : p ≤ l.length) : ∃ i0, i0 ≤ (Cs 0 l).length ∧ psI l 0 i0 = nextB l (l.length + 1 - p.toNat) p.toNat ∧ ∀ i, i ≤ (Cs 0 l).length → (p ≤ (psI l 0 i : Int) ↔ i0 ≤ i) := by
  obtain ⟨a, b, c, d⟩ := nextB_spec l (l.length + 1 - p.toNat) p.toNat (by omega) (by omega)
  have hbg := (begins_bg c).1 a
  obtain ⟨i0, h1, h2⟩ : ∃ i0, i0 ≤ (Cs 0 l).length ∧ psI l 0 i0 = nextB l (l.length + 1 - p.toNat) p.toNat := by
    rcases hbg with e | ⟨e, he, hh⟩
    · exact ⟨_, Nat.le_refl _, by rw [(cs_ps l).2, e]⟩
    · obtain ⟨m, hm⟩ := List.getElem?_of_mem he
      have hml := (List.getElem?_eq_some_iff.1 hm).1
      have := ((cs_ps l).1 m hml).1
      rw [hm] at this
      have k := Option.some.inj this
      exact ⟨m, by omega, by rw [← hh, k]⟩
  refine ⟨i0, h1, h2, fun i hi => ⟨fun h => ?_, fun h => ?_⟩⟩
  · rcases Nat.lt_or_ge i i0 with g | g
    · have k1 := pl_lt (l := l) g h1
      have k2 := d (psI l 0 i) (by omega) (by omega)
      rw [pl_begins hi] at k2
      exact absurd k2 (by simp)
    · exact g
  · have : psI l 0 i0 ≤ psI l 0 i := by
      by_cases e : i0 = i
      · rw [e]; exact Nat.le_refl _
      · exact Nat.le_of_lt (pl_lt (by omega) hi)
    omega
theorem find_rows (p : Int) (hp : p ≤ l.length) (i0 : Nat) (h0 : i0 ≤ (Cs 0 l).length) (h1 : psI l 0 i0 = nextB l (l.length + 1 - p.toNat) p.toNat) :
    (∀ i j, i0 ≤ i → i ≤ j → j ≤ (Cs 0 l).length → goV bs (Cs 0 l) i j = true → (∀ i' j', i0 ≤ i' → i' < i → i' ≤ j' → j' ≤ (Cs 0 l).length → goV bs (Cs 0 l) i' j' = false) → (∀ j', j < j' → j' ≤ (Cs 0 l).length → goV bs (Cs 0 l) i j' = false) →
      findV ((bs.map kB).flatMap itsB) l p = (psI l 0 i, psI l 0 j, true)) ∧
    ((∀ i j, i0 ≤ i → i ≤ j → j ≤ (Cs 0 l).length → goV bs (Cs 0 l) i j = false) → findV ((bs.map kB).flatMap itsB) l p = (0, 0, false)) := by
  obtain ⟨c1, c2⟩ := cs_ps l
  have hsh := psI_shift l i0
  have hfl : psI l 0 i0 ≤ l.length := pl_le h0
  have hN : wdI l (psI l 0 i0) ((Cs 0 l).length - i0) = 0 := by
    unfold wdI
    rw [hsh, show i0 + ((Cs 0 l).length - i0) = (Cs 0 l).length by omega, c2, List.drop_length]
    rfl
  have hv : ∀ m, m < (Cs 0 l).length - i0 → wdI l (psI l 0 i0) m ≠ 0 := fun m hm => by
    have := (c1 (i0 + m) (by omega)).2
    unfold wdI at this ⊢
    rwa [hsh]
  have hlead : ∀ i j, i ≤ j → j ≤ (Cs 0 l).length - i0 → goV bs (Cs 0 l) (i0 + i) (i0 + j) = rowsR (fun m => ahI l (psI l 0 i0) (i + m + 1)) (j - i) (bs.map kB) 0 := fun i j hij hj => by
    unfold goV goR
    rw [rowsE_R, List.map_map, show i0 + j - (i0 + i) = j - i by omega]
    refine rowsE_congr (fun b => b.2.2) _ _ bs 0 (Nat.zero_le _) (fun b _ m hm => ?_)
    have hk := (c1 (i0 + i + m) (by omega)).1
    have hne : l.drop (psI l 0 (i0 + i + m)) ≠ [] := fun e => by
      have := (c1 (i0 + i + m) (by omega)).2
      unfold wdI cw1 at this
      rw [if_pos e] at this
      exact this rfl
    have hg : (Cs 0 l).getD (i0 + i + m) (0, 0, 0) = (psI l 0 (i0 + i + m), rune (l.drop (psI l 0 (i0 + i + m))), cw (l.drop (psI l 0 (i0 + i + m)))) := by simp [List.getD, hk]
    rw [hg, fitE_eq b _ _ hne]
    have ha : ahI l (psI l 0 i0) (i + m + 1) = ch1 (l.drop (psI l (psI l 0 i0) (i + m))) := rfl
    show fitP b _ = fitP b (ahI l (psI l 0 i0) (i + m + 1))
    rw [ha, hsh, Nat.add_assoc]
  have hpr := piece_rows (bs := bs.map kB) (N := (Cs 0 l).length - i0) hfl hN hv (fun i j => goV bs (Cs 0 l) (i0 + i) (i0 + j)) hlead
  rw [h1] at hpr
  have hlt : ¬ (l.length : Int) < p := by omega
  refine ⟨fun i j hi hij hj hg hfirst hlast => ?_, fun hno => ?_⟩
  · obtain ⟨g1, g2, g3⟩ := hpr.1 (i - i0) (j - i0) (by omega) (by omega) (by rw [show i0 + (i - i0) = i by omega, show i0 + (j - i0) = j by omega]; exact hg)
      (fun i' j' k1 k2 k3 => hfirst (i0 + i') (i0 + j') (by omega) (by omega) (by omega) (by omega))
      (fun j' k1 k2 => by rw [show i0 + (i - i0) = i by omega]; exact hlast (i0 + j') (by omega) (by omega))
    unfold findV
    rw [if_neg hlt, if_pos g1, g2, g3, ← h1, hsh, hsh, show i0 + (i - i0) = i by omega, show i0 + (j - i0) = j by omega]
  · have g1 := hpr.2 (fun i j k1 k2 => hno (i0 + i) (i0 + j) (by omega) (by omega) (by omega))
    unfold findV
    rw [if_neg hlt, if_neg (by rw [g1]; simp)]
/-- What Find finds of plain parts. -/
theorem find_yes (p : Int) (i j : Nat) (hij : i ≤ j) (hj : j ≤ (Cs 0 l).length) (hp : p ≤ (psI l 0 i : Int)) (hg : goV bs (Cs 0 l) i j = true)
    (hfirst : ∀ i' j', i' < i → p ≤ (psI l 0 i' : Int) → i' ≤ j' → j' ≤ (Cs 0 l).length → goV bs (Cs 0 l) i' j' = false) (hlast : ∀ j', j < j' → j' ≤ (Cs 0 l).length → goV bs (Cs 0 l) i j' = false) :
    findV ((bs.map kB).flatMap itsB) l p = (psI l 0 i, psI l 0 j, true) := by
  have hpl : p ≤ l.length := by have := pl_le (l := l) (i := i) (by omega); omega
  obtain ⟨i0, a, b, c⟩ := pl_from p hpl
  exact (find_rows p hpl i0 a b).1 i j ((c i (by omega)).1 hp) hij hj hg (fun i' j' k1 k2 k3 k4 => hfirst i' j' k2 ((c i' (by omega)).2 k1) k3 k4) hlast
theorem find_no (p : Int) (h : ∀ i j, p ≤ (psI l 0 i : Int) → i ≤ j → j ≤ (Cs 0 l).length → goV bs (Cs 0 l) i j = false) : findV ((bs.map kB).flatMap itsB) l p = (0, 0, false) := by
  by_cases hpl : p ≤ l.length
  · obtain ⟨i0, a, b, c⟩ := pl_from p hpl
    exact (find_rows p hpl i0 a b).2 (fun i j k1 k2 k3 => h i j ((c i (by omega)).2 k1) k2 k3)
  · unfold findV
    rw [if_pos (by omega)]
end
end Go.Proofs.Ytedfnppekikcpaa
namespace Go.Proofs.Ytedfnppekikcpaa
open Go.RowKit Go.Shelf
set_option linter.unusedVariables false
set_option linter.unusedSimpArgs false

def itsW : List Kd := [(2, setP false false [btwP 97 99]), (4, setP false false [btwP 97 99]), (2, oneP false (46, true))]
set_option maxRecDepth 100000 in
set_option maxHeartbeats 4000000 in
theorem xcompile_works (w : World) :
    Calls Try.prog 5 #[.string sW] w fun e w' => ∃ pb D, e = .returned (.tuple #[.pointer (some ⟨pb, 0, none⟩), .nilIface]) ∧ PatL D itsW sW w' pb ∧ Below w.heap.size w w' := by
  have hB : Below w.heap.size w (w.alloc (.cells #[.string sW, .int .i64 0, .bool false, .slice none 0 0] 53)) := (Below.refl _ w).alloc (Nat.le_refl _) _
  have hr : Rx (w.alloc (.cells #[.string sW, .int .i64 0, .bool false, .slice none 0 0] 53)) w.heap.size sW 0 false (.slice none 0 0) := heap_alloc_new w _
  have kr := xread_works w.heap.size _ hr
  have KR := hide kr
  have HB := hide hB
  have hs8 : ((sW.size : Nat) : Int) = 8 := rfl
  clear hr kr hB
  go_enter Try.func5, Try.ntmps5
  go_upto_region 4 with (fail)
  generalize w.alloc (.cells #[.string sW, .int .i64 0, .bool false, .slice none 0 0] 53) = X at *
  go_wp2_with (go_at_call 15; refine (KR.out).mono ?_; rintro e x ⟨rfl, v, hR, hI, hG⟩; have HR := hide hR; have HI := hide hI; have HG := hide hG; clear hR hI hG KR)
  obtain ⟨va, vq, rfl⟩ := HI.out.shape
  have c3 := HR.out.items
  have mk : ∀ W : World, Below x.heap.size x W → (Below x.heap.size x W ∧ W.cell? ⟨w.heap.size, 3, none⟩ = some (.slice va 3 vq)) := fun W hW => ⟨hW, (HR.out.below hW).items⟩
  have MK := hide mk
  have kc := fun W => clone_any sW W (by rw [show sW.size = 8 from rfl]; decide)
  have KC := hide kc
  clear mk kc c3
  refine wp_region_held_drew (S := fun W => Below x.heap.size x W ∧ W.cell? ⟨w.heap.size, 3, none⟩ = some (.slice va 3 vq)) (by kernel_rfl) (MK.out _ (Below.refl _ x).drew) (fun hS => ?_)
  refine wpAnyH_take (i := 0) (v := (.string sW)) rfl (by kernel_rfl) (by kernel_rfl) (by kernel_rfl) (fun _ _ _ h => h) (Or.inl ⟨by kernel_rfl, fun w' hw => by (obtain ⟨_, z0⟩ := hw; go_simp)⟩) hS ?_
  refine wpAnyH_take (i := 2) (v := (.pointer (some ⟨w.heap.size, 3, none⟩))) rfl (by kernel_rfl) (by kernel_rfl) (by kernel_rfl) (fun _ _ _ h => h) (Or.inl ⟨by kernel_rfl, fun w' hw => by (obtain ⟨_, z0⟩ := hw; go_simp)⟩) hS ?_
  refine wpAnyH_take (i := 3) (v := (.slice va 3 vq)) rfl (by kernel_rfl) (by kernel_rfl) (by kernel_rfl) (fun _ _ _ h => h) (Or.inl ⟨by kernel_rfl, fun w' hw => by (obtain ⟨_, z0⟩ := hw; go_simp)⟩) hS ?_
  refine wpAnyH_ready (rs := [1]) (by kernel_rfl) (by simp) ?_
  refine AllReadyH.cons rfl (fun K hK => ?_) AllReadyH.nil
  rw [if_pos (by kernel_rfl)]
  go_simp
  go_wp2_with (go_at_call 16; refine (KC.out _).mono ?_; rintro e z ⟨rfl, hbz⟩; have HZ := hide (bseq (Below.refl _ x).drew hbz : Below x.heap.size x z); clear hbz)
  refine hK.out _ _ (MK.out _ HZ.out) (fun hS2 => ?_)
  clear hK K
  refine wpAnyH_take (i := 4) (v := (.agg #[.string sW, .slice va 3 vq, .bool true])) rfl (by kernel_rfl) (by kernel_rfl) (by kernel_rfl) (fun _ _ _ h => h) (Or.inl ⟨by kernel_rfl, fun w' hw => by (obtain ⟨_, z0⟩ := hw; go_simp)⟩) hS2 ?_
  refine wpAnyH_ready (rs := [5]) (by kernel_rfl) (by simp) ?_
  refine AllReadyH.cons rfl (fun K hK => ?_) AllReadyH.nil
  rw [if_pos (by kernel_rfl)]
  go_simp
  refine hK.out _ _ (MK.out _ (HZ.out.alloc HZ.out.size _)) (fun hS3 => ?_)
  clear hK K
  refine wpAnyH_take (i := 6) (v := (.pointer (some ⟨z.heap.size, 0, none⟩))) rfl (by kernel_rfl) (by kernel_rfl) (by kernel_rfl) (fun _ _ _ h => h) (Or.inl ⟨by kernel_rfl, fun w' hw => by (obtain ⟨_, z0⟩ := hw; go_simp)⟩) hS3 ?_
  refine wpAnyH_take (i := 7) (v := .nilIface) rfl (by kernel_rfl) (by kernel_rfl) (by kernel_rfl) (fun _ _ _ h => h) (Or.inl ⟨by kernel_rfl, fun w' hw => by (obtain ⟨_, z0⟩ := hw; go_simp)⟩) hS3 ?_
  refine wpAnyH_done (by kernel_rfl) ?_ _
  simp only [Act.put, List.getElem_toArray, List.getElem_cons_zero, List.getElem_cons_succ, List.setIfInBounds_toArray, List.set_cons_zero, List.set_cons_succ]
  go_wp2_with (fail)
  go_ret2
  have hbx : Below w.heap.size w x := HB.out.trans ⟨HG.out.1, HG.out.2.1, HG.out.2.2.1, HG.out.2.2.2.1, fun k hk => HG.out.2.2.2.2 k (Nat.lt_of_lt_of_le hk HB.out.size) (Nat.ne_of_lt hk)⟩
  have hza : Below x.heap.size x (z.alloc (.cells #[.string sW, .slice va 3 vq, .bool true] 55)) := HZ.out.alloc HZ.out.size _
  exact ⟨z.heap.size, _, rfl, ⟨_, heap_alloc_new z _, HI.out.keep (.of_below hza HI.out.1)⟩, hbx.trans (hza.mono hbx.size)⟩
end Go.Proofs.Ytedfnppekikcpaa
namespace Go.Proofs.Ytedfnppekikcpaa
open Go.RowKit Go.Shelf
set_option linter.unusedVariables false
set_option linter.unusedSimpArgs false
attribute [local go_sem] Oper.semAt_some

theorem load_boolX {w : World} {g : Nat} {v : Value} (h : w.cell? ⟨g, 0, none⟩ = some v) : (loadVar 4 ⟨g, 0, none⟩).run Try.prog w = .ok v w := by
  simp [loadVar, Sem.run_bind, Try.isAgg4, h, go_sem]
theorem results_row_cellX {P : Program} {fn : Func} {p q : Tmp} {ty ty1 : TypeId} (h : fn.results = #[.cell p ty, .cell q ty1]) (tmps : Array Value) (w : World) (g g1 : Nat) (t t1 : TypeId) (v0 v1 v2 : Value) (d : TypeDesc)
    (hp : tmps.getD p undef = .pointer (some ⟨g, 0, none⟩)) (hq : tmps.getD q undef = .pointer (some ⟨g1, 0, none⟩)) (hg : Box2 w g t v0 v1) (hg1 : Boxed w g1 t1 v2)
    (hu : P.underlying ty = some d) (hd : (match d with | .struct _ | .array _ _ => true | _ => false) = true) (hi : (P.info? ty).map (·.size) = some 2)
    (h1 : ∀ w' : World, w'.cell? ⟨g1, 0, none⟩ = some v2 → (loadVar ty1 ⟨g1, 0, none⟩).run P w' = .ok v2 w') :
    (results fn tmps).run P w = .ok (.tuple #[.agg #[v0, v1], v2]) w := by
  have hp' : tmps[p]?.getD undef = .pointer (some ⟨g, 0, none⟩) := by simpa using hp
  have hq' : tmps[q]?.getD undef = .pointer (some ⟨g1, 0, none⟩) := by simpa using hq
  have e1 := h1 w hg1.cell
  simp [results, h, hp', hq', asAddr, run_loadVar_row w g t ty #[v0, v1] (0, 0) d hg hu hd hi, e1, Sem.run_bind, Result.andThen]
theorem nextB_step {l : List UInt8} {k p : Nat} (h : beginsV l (p : Int) = false) : nextB l (k + 1) p = nextB l k (p + 1) := by
  conv => lhs; unfold nextB
  rw [h]; rfl
theorem nextB_here {l : List UInt8} {k p : Nat} (h : beginsV l (p : Int) = true) : nextB l (k + 1) p = p := by
  unfold nextB
  rw [if_pos h]
theorem pcs_none {its : List Kd} {s : ByteArray} {q : Nat} (hq : q ≤ s.size) (h : (searchF false its (bl s) q (s.size : Int) (run0 its.length)).fo = false) : pcs its (bl s) q = [] := by
  unfold pcs
  rw [bl_len, show s.size + 1 - q = (s.size - q) + 1 by omega]
  have k := pcs_at (its := its) (s := s) (k := s.size - q) (p := q) (σ := run0 its.length) rfl
  unfold run0 at k h
  rw [k, h]
  rfl
theorem pcs_some {its : List Kd} {s : ByteArray} {q : Nat} (hq : q ≤ s.size) (h : (searchF false its (bl s) q (s.size : Int) (run0 its.length)).fo = true) : ∃ r, pcs its (bl s) q = ((searchF false its (bl s) q (s.size : Int) (run0 its.length)).bf, (searchF false its (bl s) q (s.size : Int) (run0 its.length)).bt) :: r := by
  unfold pcs
  rw [bl_len, show s.size + 1 - q = (s.size - q) + 1 by omega]
  have k := pcs_at (its := its) (s := s) (k := s.size - q) (p := q) (σ := run0 its.length) rfl
  unfold run0 at k h ⊢
  rw [k, h]
  exact ⟨_, rfl⟩
theorem nextB_le {s : ByteArray} : ∀ (k p : Nat), p ≤ s.size → s.size + 1 - p ≤ k → nextB (bl s) k p ≤ s.size
  | 0, p, _, h => by omega
  | k + 1, p, hp, h => by
    cases hb : beginsV (bl s) (p : Int) with
    | true => rw [nextB_here hb]; exact hp
    | false =>
      rw [nextB_step hb]
      have hne : p ≠ s.size := fun e => by
        have := begins_fin (bl s)
        rw [bl_len, ← e, hb] at this
        cases this
      exact nextB_le k (p + 1) (by omega) (by omega)
set_option maxRecDepth 100000 in
set_option maxHeartbeats 4000000 in
theorem find_any (D : Nat → Prop) (its : List Kd) (txt s : ByteArray) (w : World) (pb : Nat) (h : PatL D its txt w pb) (hl : its.length ≤ 65536) (hs : s.size ≤ 1000000000) (f : Int) (hf : -9223372036854775808 ≤ f ∧ f < 9223372036854775808) :
    Calls Try.prog 10 #[.pointer (some ⟨pb, 0, none⟩), .string s, .int .i64 f] w fun e w' => e = .returned (.tuple #[.agg #[.int .i64 ((findV its (bl s) f).1 : Int), .int .i64 ((findV its (bl s) f).2.1 : Int)], .bool (findV its (bl s) f).2.2]) ∧ Below w.heap.size w w' := by
  obtain ⟨R, hRR⟩ : ∃ R, R = findV its (bl s) f := ⟨_, rfl⟩
  rw [← hRR]
  have HRR := hide hRR
  clear hRR
  have hB0 : Below w.heap.size w ((w.alloc (.cells #[.int .i64 0, .int .i64 0] 34)).alloc (.cells #[.bool false] 4)) := ((Below.refl _ w).alloc (Nat.le_refl _) _).alloc (by simp) _
  have b6 : Box2 ((w.alloc (.cells #[.int .i64 0, .int .i64 0] 34)).alloc (.cells #[.bool false] 4)) w.heap.size 34 (.int .i64 0) (.int .i64 0) :=
    (((Below.refl _ (w.alloc (.cells #[.int .i64 0, .int .i64 0] 34))).alloc (Nat.le_refl _) (.cells #[.bool false] 4)).block w.heap.size (by simp)).trans (heap_alloc_new w (.cells #[.int .i64 0, .int .i64 0] 34))
  have b7 := Boxed.new (w.alloc (.cells #[.int .i64 0, .int .i64 0] 34)) 4 (.bool false)
  have hP := h.below hB0
  have HDW : Hid (∀ k, D k → k < w.heap.size) := by obtain ⟨_, _, hi⟩ := h; exact hi.1
  have kn := fun (W : World) (hw : PatL D its txt W pb) => inW (m := 2) (none_made pb true W hw.made)
  have KN := hide kn
  have HP := hide hP
  have B6 := hide b6
  have B7 := hide b7
  have HB := hide hB0
  clear kn hP b6 b7 hB0 h
  refine (callsIn_wide (n := 3)).1 ?_
  refine callsIn_of_wp_marks Try.func10 rfl trivial ?_ rfl
  simp only [Try.ntmps10, List.size_toArray, List.length_cons, List.length_nil, Nat.reduceAdd, Nat.reduceSub, Array.replicate_succ, Array.replicate_zero, List.push_toArray, List.append_toArray, List.nil_append, List.cons_append]
  gi_upto_region 1 with (fail)
  obtain ⟨A6, hA6⟩ : ∃ A, A = w.heap.size := ⟨_, rfl⟩
  obtain ⟨A7, hA7⟩ : ∃ A, A = A6 + 1 := ⟨_, rfl⟩
  have e7 : (w.alloc (.cells #[.int .i64 0, .int .i64 0] 34)).heap.size = A7 := by rw [hA7, hA6]; simp
  rw [e7] at B7
  rw [← hA6] at B6 ⊢
  rw [← hA7]
  have HA6 : Hid (w.heap.size = A6) := hA6.symm
  have HA7 : Hid (A7 = A6 + 1) := hA7
  clear hA6 hA7 e7
  generalize (w.alloc (.cells #[.int .i64 0, .int .i64 0] 34)).alloc (.cells #[.bool false] 4) = V at *
  have KN1 := hide (KN.out V HP.out)
  clear KN
  by_cases hfs : (s.size : Int) < f
  · have hv : findV its (bl s) f = (0, 0, false) := by unfold findV; rw [bl_len, if_pos hfs]
    have HV := hide (HRR.out.trans hv)
    have k0 := celOf B6.out 0 _ rfl
    have k1 := B6.out.c1 (.int .i64 0)
    have g0 := frzOf B6.out 0
    have g1 := frzOf B6.out 1
    have k2 := (oth (oth B7.out (b := A6) (o := 0) (by have := HA7.out; omega) (.int .i64 0)) (b := A6) (o := 1) (by have := HA7.out; omega) (.int .i64 0)).cell
    have g2 := B7.out.frozen
    clear hv
    gi_wp2_with (refine ⟨trivial, ?_⟩; gi_at_call 19; refine (KN1.out).mono ?_; rintro e z ⟨rfl, hz⟩; obtain rfl : V = z := hz.symm; clear hz KN1)
    refine ⟨_, results_row_cellX rfl _ _ A6 A7 _ _ _ _ _ _ rfl rfl ((B6.out.set _ _).other (o := 0) (by have := HA7.out; omega) _) ((oth (o := 1) (oth (o := 0) B7.out (by have := HA7.out; omega) _) (by have := HA7.out; omega) _).set _) Try.underlying34 rfl (by kernel_rfl) (fun _ h => load_boolX h), ?_, ((HB.out.setCell (p := ⟨A6, 0, none⟩) (Nat.le_of_eq HA6.out) _).setCell (p := ⟨A6, 1, none⟩) (Nat.le_of_eq HA6.out) _).setCell (p := ⟨A7, 0, none⟩) (by have := HA6.out; have := HA7.out; show _ ≤ A7; omega) _⟩
    rw [HV.out]
    rfl
  · obtain ⟨q0, hq0⟩ : ∃ q, q = f.toNat := ⟨_, rfl⟩
    have hq1 : q0 ≤ s.size := by omega
    have hmx : max (0 : Int) f = (q0 : Int) := by omega
    have hv : findV its (bl s) f = if (searchF false its (bl s) (nextB (bl s) (s.size + 1 - q0) q0) (s.size : Int) (run0 its.length)).fo then ((searchF false its (bl s) (nextB (bl s) (s.size + 1 - q0) q0) (s.size : Int) (run0 its.length)).bf, (searchF false its (bl s) (nextB (bl s) (s.size + 1 - q0) q0) (s.size : Int) (run0 its.length)).bt, true) else (0, 0, false) := by
      unfold findV
      rw [bl_len, if_neg hfs, hq0]
    obtain ⟨q, hq⟩ : ∃ q, q = nextB (bl s) (s.size + 1 - q0) q0 := ⟨_, rfl⟩
    rw [← hq] at hv
    have HV := hide (HRR.out.trans hv)
    have HQ := hide hq
    clear hv hq
    gi_upto_region 4 with (refine ⟨trivial, ?_⟩; gi_at_call 19; refine (KN1.out).mono ?_; rintro e z ⟨rfl, hz⟩; obtain rfl : V = z := hz.symm; clear hz KN1)
    rw [show max f 0 = (q0 : Int) by omega]
    have hqs : q ≤ s.size := by rw [HQ.out]; exact nextB_le _ _ hq1 (Nat.le_refl _)
    have HQS := hide hqs
    clear hmx hqs hq0
    gi_loopw [2] (fun iv wr => ∃ (p k : Nat), iv = .int .i64 (p : Int) ∧ p ≤ s.size ∧ s.size + 1 - p ≤ k ∧ nextB (bl s) k p = q ∧ Below V.heap.size V wr) (fun iv _ => s.size + 1 - (intOf iv).toNat)
    case atStart => exact ⟨q0, s.size + 1 - q0, rfl, hq1, Nat.le_refl _, HQ.out.symm, Below.refl _ _⟩
    case round =>
      obtain ⟨p, k, rfl, hp, hk, hnx, hbl⟩ := hrel
      obtain ⟨k, rfl⟩ : ∃ j, k = j + 1 := ⟨k - 1, by omega⟩
      have kb := fun W => inW (m := 2) (begins_any s (p : Int) W (by omega))
      have HBL := hide hbl
      cases hb : beginsV (bl s) (p : Int) with
      | false =>
        rw [hb] at kb
        rw [nextB_step hb] at hnx
        have hne : p ≠ s.size := fun e => by
          have := begins_fin (bl s)
          rw [bl_len, ← e, hb] at this
          cases this
        have KB := hide kb
        have HNX := hide hnx
        clear kb hnx hb hbl
        gi_wp2_with (refine ⟨trivial, ?_⟩; gi_at_call 20; refine (KB.out _).mono ?_; rintro e z ⟨rfl, hz⟩; have HZ := hide (bseq HBL.out hz); clear hz)
        go_roundw
        case rel => exact ⟨p + 1, k, by go_num, by omega, by omega, HNX.out, HZ.out⟩
        case measure => simp [intOf]; omega
      | true =>
        rw [hb] at kb
        rw [nextB_here hb] at hnx
        subst hnx
        have KB := hide kb
        clear kb hb hbl
        have kp := fun W => inW (m := 2) (pieces_any pb s (p : Int) W)
        have KPP := hide kp
        clear kp
        gi_wp2_with (refine ⟨trivial, ?_⟩; first
          | (gi_at_call 20; refine (KB.out _).mono ?_; rintro e z ⟨rfl, hz⟩; have HZ := hide (bseq HBL.out hz); clear hz KB)
          | (gi_at_call 21; refine (KPP.out _).mono ?_; rintro e z2 ⟨rfl, hz2⟩; have HZ2 := hide hz2; clear hz2 KPP))
        have hzB : Below w.heap.size w z := HB.out.trans (HZ.out.mono HB.out.size)
        have hP3 : PatL D its txt z pb := HP.out.below HZ.out
        have b6 : Box2 z A6 34 (.int .i64 0) (.int .i64 0) := (HZ.out.block A6 (Array.getElem?_eq_some_iff.1 B6.out).1).trans B6.out
        have b7 : Boxed z A7 4 (.bool false) := (HZ.out.block A7 (Array.getElem?_eq_some_iff.1 B7.out).1).trans B7.out
        have hz3 : Below z.heap.size z z2 := by
          rw [HZ2.out]
          exact (((Below.refl _ z).alloc (Nat.le_refl _) _).alloc (by simp) _).alloc (by simp; omega) _
        have c0 : z2.cell? ⟨z.heap.size, 0, none⟩ = some (.pointer (some ⟨pb, 0, none⟩)) := by
          rw [HZ2.out]
          exact (((Boxed.new z 25 (.pointer (some ⟨pb, 0, none⟩))).alloc (.cells #[.string s] 9)).alloc (.cells #[.int .i64 (p : Int)] 3)).cell
        have c1 : z2.cell? ⟨z.heap.size + 1, 0, none⟩ = some (.string s) := by
          rw [HZ2.out]
          have k := ((Boxed.new (z.alloc (.cells #[.pointer (some ⟨pb, 0, none⟩)] 25)) 9 (.string s)).alloc (.cells #[.int .i64 (p : Int)] 3)).cell
          simpa using k
        have c2 : z2.cell? ⟨z.heap.size + 1 + 1, 0, none⟩ = some (.int .i64 (p : Int)) := by
          rw [HZ2.out]
          have k := (Boxed.new ((z.alloc (.cells #[.pointer (some ⟨pb, 0, none⟩)] 25)).alloc (.cells #[.string s] 9)) 3 (.int .i64 (p : Int))).cell
          simpa using k
        have hsz : z2.heap.size = z.heap.size + 3 := by rw [HZ2.out]; simp
        have hl6 : A6 < z2.heap.size := Nat.lt_of_lt_of_le (Array.getElem?_eq_some_iff.1 b6).1 (by omega)
        have hl7 : A7 < z2.heap.size := Nat.lt_of_lt_of_le (Array.getElem?_eq_some_iff.1 b7).1 (by omega)
        have hDz : ∀ k, D k → k < z.heap.size := by obtain ⟨_, _, hi⟩ := hP3; exact hi.1
        have hne : A7 ≠ A6 := by have := HA7.out; omega
        have hw6 : w.heap.size ≤ A6 := Nat.le_of_eq HA6.out
        have hw7 : w.heap.size ≤ A7 := by have := HA6.out; have := HA7.out; omega
        have hN6 : ∀ k, (D k ∨ k = z.heap.size + 1) → k < z2.heap.size := fun k h => by
          rcases h with h | h
          · have := hDz k h; omega
          · omega
        have hnA : ∀ a, w.heap.size ≤ a → a < z.heap.size → ¬ (D a ∨ a = z.heap.size + 1) := fun a h1 h2 h => by
          rcases h with h | h
          · have := HDW.out a h; omega
          · omega
        have hz6 : A6 < z.heap.size := (Array.getElem?_eq_some_iff.1 b6).1
        have hz7 : A7 < z.heap.size := (Array.getElem?_eq_some_iff.1 b7).1
        have b6' : Box2 z2 A6 34 (.int .i64 0) (.int .i64 0) := (hz3.block A6 hz6).trans b6
        have b7' : Boxed z2 A7 4 (.bool false) := (hz3.block A7 hz7).trans b7
        have hxs := pieces_x (fun _ => False) (fun k => D k ∨ k = z.heap.size + 1) D its txt z.heap.size (z.heap.size + 1) (z.heap.size + 1 + 1) pb s p z2 hs hp hl hN6 (hP3.below hz3) (.inr rfl) (fun k h => .inl h) c0 c1 c2 id id id id
        have hB2 : Below w.heap.size w z2 := hzB.trans (hz3.mono hzB.size)
        have hws : w.heap.size ≤ z.heap.size := hzB.size
        clear c0 c1 c2 hz3 b6 b7 HZ2 HB B6 B7 HP HZ HBL hP3
        apply rangeP (gf := 41) (lb := #[.pointer (some ⟨z.heap.size, 0, none⟩), .pointer (some ⟨z.heap.size + 1, 0, none⟩), .pointer (some ⟨z.heap.size + 1 + 1, 0, none⟩)]) (encs := encPc) rfl (enters_of Try.func41 (by kernel_rfl) rfl)
          hxs (Below.refl _ _) hN6 (fun _ => rfl)
          (fun pre W' => (Box2 W' A6 34 (.int .i64 0) (.int .i64 0) ∧ Boxed W' A7 4 (.bool false)) ∧ (pre = [] ∧ (z2.heap.size ≤ W'.heap.size ∧ Below w.heap.size w W')))
          (fun c pre W' => (c = .ret ∧ (Box2 W' A6 34 (.int .i64 (R.1 : Int)) (.int .i64 (R.2.1 : Int)) ∧ Boxed W' A7 4 (.bool R.2.2))) ∧ Below w.heap.size w W')
          (Stab.and (Stab.and (Stab.box2 _ _ _ hl6) (Stab.box _ _ hl7)) (Stab.and (Stab.pure _) (Stab.and (fun s A B h hs => Nat.le_trans h hs.1.2.2.2) (Stab.below (by omega) (Nat.le_refl _)))))
          (fun c => Stab.and (Stab.and (Stab.pure _) (Stab.and (Stab.box2 _ _ _ hl6) (Stab.box _ _ hl7))) (Stab.below (by omega) (Nat.le_refl _)))
          ⟨⟨b6', b7'⟩, rfl, Nat.le_refl _, hB2⟩ (fun x => #[.int .i64 (x.1 : Int), .int .i64 (x.2 : Int)]) 34
        case hsize => exact fun s W h => h.2.2.1
        case hassign =>
          intro l' x W' K hK
          simp only [encPc]
          gi_wp2
          exact hK _ ((Below.refl _ _).alloc (Nat.le_refl _) _) (heap_alloc_new _ _)
        case hbody =>
          rintro l' pre x Wb W' ⟨⟨h6, h7⟩, rfl, hsz', hbw⟩ hWb hpc hpx
          have hR : R = (x.1, x.2, true) := by
            rw [HV.out]
            cases hfo : (searchF false its (bl s) p (s.size : Int) (run0 its.length)).fo with
            | false =>
              rw [pcs_none hp hfo] at hpx
              have := hpx.length_le
              simp at this
            | true =>
              obtain ⟨r, hr⟩ := pcs_some (its := its) hp hfo
              rw [hr] at hpx
              have hx := List.prefix_iff_eq_take.1 hpx
              simp at hx
              rw [if_pos rfl, hx]
          have HRX := hide hR
          have p0 := celOf hpc 0 _ rfl
          have p1 := celOf hpc 1 _ rfl
          have k0 := celOf h6 0 _ rfl
          have k1 := h6.c1 (.int .i64 (x.1 : Int))
          have g0 := frzOf h6 0
          have g1 := frzOf h6 1
          have k2 := (oth (oth h7 (b := A6) (o := 0) hne (.int .i64 (x.1 : Int))) (b := A6) (o := 1) hne (.int .i64 (x.2 : Int))).cell
          have g2 := h7.frozen
          have H6 := hide h6
          have H7 := hide h7
          have HBW := hide hbw
          have HNA := hide hnA
          clear h6 h7 hbw hpc hpx hsz' hR hnA hxs
          gi_wp2
          rw [HRX.out]
          refine ⟨((Kp.set' (o := 0) _ (HNA.out A6 hw6 hz6) hl6).trans (Kp.set' (o := 1) _ (HNA.out A6 hw6 hz6) hl6)).trans (Kp.set' (o := 0) _ (HNA.out A7 hw7 hz7) hl7), ⟨rfl, (H6.out.set _ _).other (o := 0) hne.symm _, (oth (o := 1) (oth (o := 0) H7.out hne _) hne _).set _⟩, ((HBW.out.setCell (p := ⟨A6, 0, none⟩) hw6 _).setCell (p := ⟨A6, 1, none⟩) hw6 _).setCell (p := ⟨A7, 0, none⟩) hw7 _⟩
        case hdone =>
          rintro D0 W' hD0 ⟨⟨h6, h7⟩, hxe, hsz', hbw⟩ hK
          have hR : R = (0, 0, false) := by
            rw [HV.out]
            cases hfo : (searchF false its (bl s) p (s.size : Int) (run0 its.length)).fo with
            | false => rw [if_neg (by decide)]
            | true =>
              obtain ⟨r, hr⟩ := pcs_some (its := its) hp hfo
              rw [hr] at hxe
              cases hxe
          have HRX := hide hR
          have k0 := celOf h6 0 _ rfl
          have k1 := h6.c1 (.int .i64 0)
          have g0 := frzOf h6 0
          have g1 := frzOf h6 1
          have k2 := (oth (oth h7 (b := A6) (o := 0) hne (.int .i64 0)) (b := A6) (o := 1) hne (.int .i64 0)).cell
          have g2 := h7.frozen
          have H6 := hide h6
          have H7 := hide h7
          have HBW := hide hbw
          have HKK := hide hK
          clear h6 h7 hbw hxe hsz' hR hnA hxs hK
          gi_wp2
          have hK' : (((W'.setCell ⟨A6, 0, none⟩ (.int .i64 0)).setCell ⟨A6, 1, none⟩ (.int .i64 0)).setCell ⟨A7, 0, none⟩ (.bool false)).heap[D0]? = some (.deferred (some [])) := by
            rw [Below.heap_setCell _ _ _ _ (by show D0 ≠ A7; omega), Below.heap_setCell _ _ _ _ (by show D0 ≠ A6; omega), Below.heap_setCell _ _ _ _ (by show D0 ≠ A6; omega)]
            exact HKK.out
          have q1 : Box2 (((W'.setCell ⟨A6, 0, none⟩ (.int .i64 0)).setCell ⟨A6, 1, none⟩ (.int .i64 0)).setCell ⟨A7, 0, none⟩ (.bool false)) A6 34 (.int .i64 0) (.int .i64 0) := (H6.out.set _ _).other (o := 0) hne.symm _
          have q2 : Boxed (((W'.setCell ⟨A6, 0, none⟩ (.int .i64 0)).setCell ⟨A6, 1, none⟩ (.int .i64 0)).setCell ⟨A7, 0, none⟩ (.bool false)) A7 4 (.bool false) := (oth (o := 1) (oth (o := 0) H7.out hne _) hne _).set _
          have qB : Below w.heap.size w (((W'.setCell ⟨A6, 0, none⟩ (.int .i64 0)).setCell ⟨A6, 1, none⟩ (.int .i64 0)).setCell ⟨A7, 0, none⟩ (.bool false)) := ((HBW.out.setCell (p := ⟨A6, 0, none⟩) hw6 _).setCell (p := ⟨A6, 1, none⟩) hw6 _).setCell (p := ⟨A7, 0, none⟩) hw7 _
          refine ⟨by simp, .inl ⟨_, _, rfl, run_takeDeferred hK', ?_⟩⟩
          refine ⟨_, results_row_cellX rfl _ _ A6 A7 _ _ _ _ _ _ rfl rfl (put_kept _ hK' q1 (by omega)) (put_kept _ hK' q2 (by omega)) Try.underlying34 rfl (by kernel_rfl) (fun _ h => load_boolX h), ?_, qB.trans (belowK_b (w := w) (Nat.le_refl _) _ D0 _ _ (by omega) hK' rfl rfl)⟩
          rw [HRX.out]
          rfl
        case hstop =>
          rintro D0 c pre W' hD0 _ ⟨⟨rfl, h6, h7⟩, hbw⟩ hK
          have H6 := hide h6
          have H7 := hide h7
          have HBW := hide hbw
          clear h6 h7 hbw hnA hxs
          gi_wp2
          refine ⟨by simp, .inl ⟨_, _, rfl, run_takeDeferred hK, ?_⟩⟩
          refine ⟨_, results_row_cellX rfl _ _ A6 A7 _ _ _ _ _ _ rfl rfl (put_kept _ hK H6.out (by omega)) (put_kept _ hK H7.out (by omega)) Try.underlying34 rfl (by kernel_rfl) (fun _ h => load_boolX h), rfl, HBW.out.trans (belowK_b (w := w) (Nat.le_refl _) _ D0 _ _ (by omega) hK rfl rfl)⟩
end Go.Proofs.Ytedfnppekikcpaa
namespace Go.Proofs.Ytedfnppekikcpaa
open Go.RowKit Go.Shelf
set_option linter.unusedVariables false
set_option linter.unusedSimpArgs false

theorem works_m : matchV itsW (bl ⟨#[120, 97, 98, 46, 99]⟩) 1 = (4, true) := by decide +kernel
theorem works_f : findV itsW (bl ⟨#[255, 97, 98, 46, 99]⟩) 0 = (1, 4, true) := by decide +kernel
theorem works_n : findV itsW (bl ⟨#[97, 98]⟩) 0 = (0, 0, false) := by decide +kernel
theorem Try.noHeldPc : Try.prog.stoodInHeld 34 = false := by kernel_rfl
theorem Try.fieldsPc : Try.prog.underlying 34 = some (.struct (Try.prog.fieldsOf 34)) := by kernel_rfl
theorem piece_eq (w : World) : (Op.equalIn 10000 34 (.agg #[.int .i64 1, .int .i64 4]) (.agg #[.int .i64 1, .int .i64 4])).run Try.prog w = .ok true w := by
  rw [run_equalIn_agg w 9999 34 _ _ Try.fieldsPc Try.noHeldPc]
  have u3 := Try.underlying3
  have a3 := Try.isAgg3
  unfold Program.fieldsOf
  rw [Try.underlying34]
  simp [Op.eqFields, part, u3, a3, go_sem]
theorem Try.noGuardPc : Try.prog.eqGuardType Try.prog.depth 34 = false := by kernel_rfl
set_option maxRecDepth 100000 in
set_option maxHeartbeats 4000000 in
theorem xworks_any (w : World) : Calls Try.prog 11 #[] w fun e w' => e = .returned (.bool true) ∧ Below w.heap.size w w' := by
  have kc := xcompile_works w
  have km := fun W D pb (h : PatL D itsW sW W pb) => match_any D itsW sW ⟨#[120, 97, 98, 46, 99]⟩ W pb h (by decide) (by decide) 1 (by decide)
  have k1 := fun W D pb (h : PatL D itsW sW W pb) => find_any D itsW sW ⟨#[255, 97, 98, 46, 99]⟩ W pb h (by decide) (by decide) 0 (by decide)
  have k2 := fun W D pb (h : PatL D itsW sW W pb) => find_any D itsW sW ⟨#[97, 98]⟩ W pb h (by decide) (by decide) 0 (by decide)
  rw [works_m] at km
  rw [works_f] at k1
  rw [works_n] at k2
  simp only at km k1 k2
  have pe := fun W => piece_eq W
  have pg := Try.noGuardPc
  have KC := hide kc
  have KM := hide km
  have K1 := hide k1
  have K2 := hide k2
  clear kc km k1 k2
  go_enter Try.func11, Try.ntmps11
  go_wp2_with (first
    | (go_at_call 5; refine Calls.mono (KC.out) ?_; rintro e x1 ⟨pb, D, rfl, hp, hb⟩; have HP := hide hp; have HB := hide hb; clear hp hb KC)
    | (go_at_call 22; refine (KM.out _ _ _ HP.out).mono ?_; rintro e x2 ⟨rfl, hb⟩; replace HP := hide (HP.out.below hb); replace HB := hide (bseq HB.out hb); clear hb KM)
    | (go_at_call 10; refine (K1.out _ _ _ HP.out).mono ?_; rintro e x3 ⟨rfl, hb⟩; have h8 := heap_alloc_new x3 (.cells #[.int .i64 1, .int .i64 4] 34); have H8 := hide h8; have hb8 : Below x3.heap.size x3 (x3.alloc (.cells #[.int .i64 1, .int .i64 4] 34)) := (Below.refl _ _).alloc (Nat.le_refl _) _; replace HP := hide (HP.out.below (bseq hb hb8)); replace HB := hide (bseq HB.out (bseq hb hb8)); clear hb hb8 h8 K1)
    | (go_at_call 10; refine (K2.out _ _ _ HP.out).mono ?_; rintro e x4 ⟨rfl, hb⟩; have hq := (hb.block _ (Array.getElem?_eq_some_iff.1 H8.out).1).trans H8.out; have q0 := cel2 hq 0 _ rfl; have q1 := cel2 hq 1 _ rfl; have qs := (Array.getElem?_eq_some_iff.1 hq).1; replace HB := hide (bseq HB.out hb); clear hb hq K2))
  go_ret
  exact ⟨rfl, HB.out.alloc HB.out.size _⟩
end Go.Proofs.Ytedfnppekikcpaa
namespace Go.Proofs.Ytedfnppekikcpaa
open Go.RowKit Go.Shelf
set_option linter.unusedVariables false
set_option linter.unusedSimpArgs false

def bitC (b : Bt) : List Value := [.int .i32 b.1, .bool b.2.1, .int .i64 (b.2.2 : Int)]
set_option maxRecDepth 100000 in
set_option maxHeartbeats 4000000 in
theorem fits_any (b : Bt) (e : Nat × Nat × Nat) (w : World) :
    Calls Try.prog 18 #[.agg #[.int .i32 b.1, .bool b.2.1, .int .i64 (b.2.2 : Int)], .agg #[.int .i64 (e.1 : Int), .int .i32 (e.2.1 : Int), .int .i64 (e.2.2 : Int), .bool (rightE e)]] w fun ev w' => ev = .returned (.bool (fitE b e)) ∧ Below w.heap.size w w' := by
  obtain ⟨r, any, how⟩ := b
  unfold fitE
  simp only
  generalize rightE e = rt
  generalize (e.2.1 : Int) = q
  have hb1 : Below w.heap.size w (w.alloc (.cells #[.int .i32 r, .bool any, .int .i64 (how : Int)] 42)) := (Below.refl _ w).alloc (Nat.le_refl _) _
  have hb2 : Below w.heap.size w ((w.alloc (.cells #[.int .i32 r, .bool any, .int .i64 (how : Int)] 42)).alloc (.cells #[.int .i64 (e.1 : Int), .int .i32 q, .int .i64 (e.2.2 : Int), .bool rt] 59)) := hb1.alloc (by simp) _
  have k1 : ((w.alloc (.cells #[.int .i32 r, .bool any, .int .i64 (how : Int)] 42)).alloc (.cells #[.int .i64 (e.1 : Int), .int .i32 q, .int .i64 (e.2.2 : Int), .bool rt] 59)).heap[w.heap.size]? = some (.cells #[.int .i32 r, .bool any, .int .i64 (how : Int)] 42 (0, 0)) := by
    rw [Below.heap_alloc _ _ _ (by simp)]
    exact heap_alloc_new w _
  have k2 : ((w.alloc (.cells #[.int .i32 r, .bool any, .int .i64 (how : Int)] 42)).alloc (.cells #[.int .i64 (e.1 : Int), .int .i32 q, .int .i64 (e.2.2 : Int), .bool rt] 59)).heap[w.heap.size + 1]? = some (.cells #[.int .i64 (e.1 : Int), .int .i32 q, .int .i64 (e.2.2 : Int), .bool rt] 59 (0, 0)) := heap_alloc2_new w _ _
  have a0 := cel2 k1 0 _ rfl
  have a1 := cel2 k1 1 _ rfl
  have c1 := cel2 k2 1 _ rfl
  have c3 := cel2 k2 3 _ rfl
  have HB := hide hb2
  clear k1 k2 hb1 hb2
  cases any with
  | false =>
    cases rt with
    | false =>
      go_enter Try.func18, Try.ntmps18
      go_wp2_with (fail)
      try (go_quiet (fail); go_wp2_with (fail))
      go_ret
      first | exact ⟨rfl, HB.out⟩ | exact ⟨rfl, below_drewN HB.out _⟩
    | true =>
      have he : (q == r) = decide (q = r) := by
        by_cases h : q = r
        · rw [decide_eq_true h, h]; simp
        · rw [decide_eq_false h]; exact beq_eq_false_iff_ne.2 h
      have HE := hide he
      clear he
      go_enter Try.func18, Try.ntmps18
      go_wp2_with (fail)
      try (go_quiet (fail); go_wp2_with (fail))
      go_ret
      have hfin : (q == r) = (true && decide (q = r)) := by rw [HE.out]; simp
      first | exact ⟨by simp [HE.out], HB.out⟩ | exact ⟨by simp [HE.out], below_drewN HB.out _⟩
  | true =>
    cases rt with
    | false =>
      go_enter Try.func18, Try.ntmps18
      go_wp2_with (fail)
      try (go_quiet (fail); go_wp2_with (fail))
      go_ret
      first | exact ⟨rfl, HB.out⟩ | exact ⟨rfl, below_drewN HB.out _⟩
    | true =>
      by_cases h : q = 10 ∨ q = 13 ∨ q = 133 ∨ q = 8232 ∨ q = 8233
      · rcases h with rfl | rfl | rfl | rfl | rfl
        all_goals (
          go_enter Try.func18, Try.ntmps18
          go_wp2_with (fail)
          try (go_quiet (fail); go_wp2_with (fail))
          go_ret
          first | exact ⟨rfl, HB.out⟩ | exact ⟨rfl, below_drewN HB.out _⟩)
      · have h10 : (q == 10) = false := beq_eq_false_iff_ne.2 (by omega)
        have h13 : (q == 13) = false := beq_eq_false_iff_ne.2 (by omega)
        have h133 : (q == 133) = false := beq_eq_false_iff_ne.2 (by omega)
        have h82 : (q == 8232) = false := beq_eq_false_iff_ne.2 (by omega)
        have h83 : (q == 8233) = false := beq_eq_false_iff_ne.2 (by omega)
        have n10 : (q != 10) = true := bne_iff_ne.2 (by omega)
        have n13 : (q != 13) = true := bne_iff_ne.2 (by omega)
        have n133 : (q != 133) = true := bne_iff_ne.2 (by omega)
        have n82 : (q != 8232) = true := bne_iff_ne.2 (by omega)
        have n83 : (q != 8233) = true := bne_iff_ne.2 (by omega)
        have he : endK q = false := by simp [endK, endL, inO, h10, h13, h133, h82, h83]
        have HE := hide he
        clear he h
        rw [HE.out]
        go_enter Try.func18, Try.ntmps18
        go_wp2_with (fail)
        try (go_quiet (fail); go_wp2_with (fail))
        go_ret
        first | exact ⟨rfl, HB.out⟩ | exact ⟨rfl, below_drewN HB.out _⟩
set_option maxRecDepth 100000 in
set_option maxHeartbeats 2000000 in
theorem place_any (s : ByteArray) (a : Option Addr) (cap : Nat) (w : World) (h : SlC w a (Cs 0 (bl s))) (k : Nat) (hk : k ≤ (Cs 0 (bl s)).length) (hn : (Cs 0 (bl s)).length ≤ 1048576) :
    Calls Try.prog 8 #[.string s, .slice a (Cs 0 (bl s)).length cap, .int .i64 (k : Int)] w fun e w' => e = .returned (.int .i64 (psI (bl s) 0 k : Int)) ∧ w' = w := by
  obtain ⟨c1, c2⟩ := cs_ps (bl s)
  have hnI : ((Cs 0 (bl s)).length : Int) ≤ 1048576 := by omega
  by_cases e : k = (Cs 0 (bl s)).length
  · rw [e, c2, bl_len]
    generalize (Cs 0 (bl s)).length = n at *
    clear c1 c2 h
    go_enter Try.func8, Try.ntmps8
    go_wp2_with (fail)
    go_ret
    exact ⟨rfl, rfl⟩
  · have hlt : k < (Cs 0 (bl s)).length := by omega
    have hc := (c1 k hlt).1
    obtain ⟨b, rfl, _, hcell⟩ : ∃ b, a = some ⟨b, 0, none⟩ ∧ b < w.heap.size ∧ w.cell? ⟨b, k * 4, none⟩ = some (.int .i64 (psI (bl s) 0 k : Int)) := by
      rcases h with h | ⟨b, ha, hb, hs⟩
      · rw [h] at hlt; simp at hlt
      · exact ⟨b, ha, hb, (hs k _ hc).1⟩
    generalize (Cs 0 (bl s)).length = n at *
    have hltI : (k : Int) < (n : Int) := by omega
    have hne : ((k : Int) == (n : Int)) = false := beq_eq_false_iff_ne.2 (by omega)
    clear c1 c2 h hc
    go_enter Try.func8, Try.ntmps8
    go_wp2_with (fail)
    try (go_quiet (fail); go_wp2_with (fail))
    go_ret
    exact ⟨rfl, rfl⟩
end Go.Proofs.Ytedfnppekikcpaa
