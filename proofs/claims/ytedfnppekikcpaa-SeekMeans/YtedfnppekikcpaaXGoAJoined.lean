/- Package seek, the statements' own: rows of bools. -/
import Derived.Test.YtedfnppekikcpaaXRowMJoined
import Derived.Test.YtedfnppekikcpaaXRow8
import Derived.Test.YtedfnppekikcpaaKRune
import Derived.Lib.RuneBytes
import Derived.Test.YtedfnppekikcpaaUFirst
import Derived.ProofKit
import Derived.ChangeOld
import Derived.ChangeMaps5
import Derived.SizedLaws
import Derived.JoinedCond
import Derived.Deep.Slices
import Derived.Test.YtedfnppekikcpaaXFitJoined
import Derived.Test.YtedfnppekikcpaaURunJoined
import Derived.OwnWalk
import Derived.Deep.OwnRows
import Derived.Deep.RegionWith
namespace Go.Proofs.Ytedfnppekikcpaa
open Go.RowKit Go.Shelf
set_option linter.unusedVariables false

theorem xmk_yes {b : UInt8} (h : xmk b.toNat = true) : xq1 b = [92, b] := by unfold xq1; rw [if_pos h]
theorem xmk_no {b : UInt8} (h : xmk b.toNat = false) : xq1 b = [b] := by unfold xq1; rw [h]; rfl
theorem bl_at (s : ByteArray) (k : Nat) (h : k < s.size) : (bl s)[k]'(by rw [bl_len]; exact h) = s[k]'h := rfl
set_option maxRecDepth 100000 in
set_option maxHeartbeats 2000000 in
theorem xquote_any (s : ByteArray) (w : World) (hs : s.size ≤ 17592186044416) :
    Calls Try.prog 14 #[.string s] w fun e w' => e = .returned (.string ⟨(xqo (bl s)).toArray⟩) ∧ Below w.heap.size w w' := by
  have hsI : (s.size : Int) ≤ 17592186044416 := by omega
  have hbk : (w.alloc (.cells #[.pointer none, .slice none 0 0] 71)).heap[w.heap.size]? = some (.cells #[.pointer none, .slice none 0 0] 71 (0, 0)) := heap_alloc_new w _
  have hb0 : Below w.heap.size w (w.alloc (.cells #[.pointer none, .slice none 0 0] 71)) := (Below.refl _ _).alloc (Nat.le_refl _) _
  have kg := bgrow w.heap.size w.heap.size s.size _ (Nat.le_refl _) hbk hb0.size (by omega)
  have KG := hide kg
  have HB0 := hide hb0
  clear kg hbk hb0
  go_enter Try.func14, Try.ntmps14
  go_wp2_with (go_at_call 23; refine (KG.out).mono ?_; rintro e x ⟨rfl, hBx, hbx⟩; have HBX := hide hBx; have HX := hide (HB0.out.trans hbx); clear hBx hbx)
  go_loopw [10] (fun i wr => ∃ k : Nat, i = .int .i64 (k : Int) ∧ k ≤ s.size ∧ Bd8 w.heap.size w.heap.size (xqo ((bl s).take k)) wr ∧ Below w.heap.size w wr) (fun i _ => s.size - (intOf i).toNat)
  case atStart => exact ⟨0, rfl, Nat.zero_le _, HBX.out, HX.out⟩
  case round =>
    clear HBX HX
    obtain ⟨k, rfl, hk, hBd, hB⟩ := hrel
    have HBD := hide hBd
    have HB := hide hB
    clear hBd hB
    by_cases hlt : k < s.size
    · have hltI : (k : Int) < (s.size : Int) := by omega
      have hsn := xqo_snoc (l := bl s) (k := k) (by rw [bl_len]; exact hlt)
      rw [bl_at s k hlt] at hsn
      have hln := xqo_len ((bl s).take k)
      rw [List.length_take, bl_len] at hln
      generalize xqo ((bl s).take k) = acc at *
      obtain ⟨c, hc⟩ : ∃ c, s[k]'hlt = c := ⟨_, rfl⟩
      rw [hc] at hsn
      have hcn : (s[k]'hlt).toNat = c.toNat := by rw [hc]
      have HSN := hide hsn
      have hal : acc.length + 2 ≤ 140737488355328 := by omega
      have HAL := hide hal
      clear hsn hln hc hal
      rcases xmk_cases c.toNat with ⟨hm, hcs⟩ | ⟨hm, n1, n2, n3, n4, n5, n6, n7, n8, n9⟩
      · rw [xmk_yes hm] at HSN
        rcases hcs with h | h | h | h | h | h | h | h | h
        all_goals
          have hcc := hcn.trans h
          have KB1 := hide (fun W hb hB => bwriteByte w.heap.size w.heap.size acc 92 W hb (by have := HAL.out; omega) hB)
          have kb2 := fun W hb hB => bwriteByte w.heap.size w.heap.size (acc ++ [92]) c W hb (by have := HAL.out; rw [List.length_append, List.length_singleton]; omega) hB
          rw [h] at kb2
          push_cast at kb2
          have KB2 := hide kb2
          clear hcn h hm kb2
          go_wp2_with (first | (go_at_call 24; refine (KB1.out _ HBD.out HB.out.size).mono ?_; rintro e y ⟨rfl, hBy, hby⟩; have HBY := hide hBy; have HY := hide (HB.out.trans hby); clear hBy hby KB1) | (go_at_call 24; refine (KB2.out _ HBY.out HY.out.size).mono ?_; rintro e z ⟨rfl, hBz, hbz⟩; have HBZ := hide hBz; have HZ := hide (HY.out.trans hbz); clear hBz hbz))
          go_roundw
          case rel => exact ⟨k + 1, by go_num, by omega, by rw [HSN.out]; have := HBZ.out; rwa [List.append_assoc] at this, HZ.out⟩
          case measure => simp [intOf]; omega
      · rw [xmk_no hm] at HSN
        obtain ⟨b, hb⟩ : ∃ b : Nat, c.toNat = b := ⟨_, rfl⟩
        rw [hb] at n1 n2 n3 n4 n5 n6 n7 n8 n9 hcn
        have m1 : ((b : Int) == 46) = false := beq_eq_false_iff_ne.2 (by omega)
        have m2 : ((b : Int) == 91) = false := beq_eq_false_iff_ne.2 (by omega)
        have m3 : ((b : Int) == 93) = false := beq_eq_false_iff_ne.2 (by omega)
        have m4 : ((b : Int) == 42) = false := beq_eq_false_iff_ne.2 (by omega)
        have m5 : ((b : Int) == 43) = false := beq_eq_false_iff_ne.2 (by omega)
        have m6 : ((b : Int) == 63) = false := beq_eq_false_iff_ne.2 (by omega)
        have m7 : ((b : Int) == 94) = false := beq_eq_false_iff_ne.2 (by omega)
        have m8 : ((b : Int) == 36) = false := beq_eq_false_iff_ne.2 (by omega)
        have m9 : ((b : Int) == 92) = false := beq_eq_false_iff_ne.2 (by omega)
        have KB2 := hide (fun W hb hB => bwriteByte w.heap.size w.heap.size acc c W hb (by have := HAL.out; omega) hB)
        rw [hb] at KB2
        clear hm n1 n2 n3 n4 n5 n6 n7 n8 n9 hb
        go_wp2_with (go_at_call 24; refine (KB2.out _ HBD.out HB.out.size).mono ?_; rintro e z ⟨rfl, hBz, hbz⟩; have HBZ := hide hBz; have HZ := hide (HB.out.trans hbz); clear hBz hbz)
        go_roundw
        case rel => exact ⟨k + 1, by go_num, by omega, by rw [HSN.out]; exact HBZ.out, HZ.out⟩
        case measure => simp [intOf]; omega
    · have hge : (s.size : Int) ≤ (k : Int) := by omega
      have hbd := HBD.out
      rw [List.take_of_length_le (by rw [bl_len]; omega)] at hbd
      have HBD2 := hide hbd
      clear hbd
      go_wp2_with (go_at_call 25; refine (bstring _ _ _ _ HBD2.out HB.out.size).mono ?_; rintro e z ⟨rfl, hBz, hbz⟩; have HZ := hide (HB.out.trans hbz); clear hBz hbz)
      go_ret
      exact ⟨rfl, HZ.out⟩
end Go.Proofs.Ytedfnppekikcpaa
namespace Go.Proofs.Ytedfnppekikcpaa
open Go.RowKit
set_option linter.unusedVariables false

/-- The rows by which runes are folded: from, to, each how many, how much is added. -/
def foldRows : List (Int × Int × Int × Int) := [(65, 90, 1, 32), (192, 214, 1, 32), (216, 222, 1, 32), (256, 302, 2, 1), (306, 310, 2, 1), (313, 327, 2, 1), (330, 374, 2, 1), (376, 376, 1, -121), (377, 381, 2, 1), (383, 383, 1, -268), (902, 902, 1, 38), (904, 906, 1, 37), (908, 908, 1, 64), (910, 911, 1, 63), (913, 929, 1, 32), (931, 939, 1, 32), (962, 962, 1, 1), (984, 1006, 2, 1), (1024, 1039, 1, 80), (1040, 1071, 1, 32), (1120, 1152, 2, 1), (1162, 1214, 2, 1), (1217, 1229, 2, 1), (1232, 1326, 2, 1), (1329, 1366, 1, 48), (7680, 7828, 2, 1), (7838, 7838, 1, -7615), (7840, 7934, 2, 1), (8486, 8486, 1, -7517), (8490, 8490, 1, -8383), (8491, 8491, 1, -8262), (8544, 8559, 1, 16), (9398, 9423, 1, 26), (65313, 65338, 1, 32), (66560, 66599, 1, 40)]
/-- A row says of a rune what becomes of it. -/
def hit (r : Int) (x : Int × Int × Int × Int) : Prop := x.1 ≤ r ∧ r ≤ x.2.1 ∧ (r - x.1) % x.2.2.1 = 0
theorem inL_mem {l : List (Int × Int)} {r : Int} (h : inL l r = true) : ∃ p ∈ l, p.1 ≤ r ∧ r ≤ p.2 := by
  unfold inL inB at h
  rw [List.any_eq_true] at h
  obtain ⟨p, hp, h⟩ := h
  rw [Bool.and_eq_true, decide_eq_true_eq, decide_eq_true_eq] at h
  exact ⟨p, hp, h⟩
theorem inO_mem {l : List Int} {r : Int} (h : inO l r = true) : r ∈ l := by
  unfold inO at h
  rw [List.any_eq_true] at h
  obtain ⟨p, hp, h⟩ := h
  have e : r = p := by simpa using h
  rw [e]; exact hp
theorem inO_not {l : List Int} {r : Int} (h : r ∉ l) : inO l r = false := by
  cases e : inO l r with
  | false => rfl
  | true => exact absurd (inO_mem e) h
theorem wrap32_id (n : Int) (h : -2147483648 ≤ n ∧ n ≤ 2147483647) : wrap32 n = n := by unfold wrap32; omega
theorem rows_bd : ∀ x ∈ foldRows, 65 ≤ x.1 ∧ x.2.1 ≤ 66599 ∧ -10000 ≤ x.2.2.2 ∧ x.2.2.2 ≤ 100 := by decide
theorem add_row {l : List (Int × Int)} {r d : Int} (hl : ∀ p ∈ l, (p.1, p.2, 1, d) ∈ foldRows) (h : inL l r = true) : ∃ x ∈ foldRows, hit r x ∧ wrap32 (r + d) = r + x.2.2.2 := by
  obtain ⟨p, hp, h1, h2⟩ := inL_mem h
  refine ⟨_, hl p hp, ⟨h1, h2, by simp [Int.emod_one]⟩, ?_⟩
  have := rows_bd _ (hl p hp)
  simp only at this
  exact wrap32_id _ (by omega)
theorem even_rows : ∀ p ∈ evenL, (p.1, p.2, 2, 1) ∈ foldRows ∧ p.1 % 2 = 0 := by decide
theorem odd_rows : ∀ p ∈ oddL, (p.1, p.2, 2, 1) ∈ foldRows ∧ p.1 % 2 = 1 := by decide
theorem pair_row {r : Int} (h : pairsK r = true) : ∃ x ∈ foldRows, hit r x ∧ wrap32 (r + 1) = r + x.2.2.2 := by
  unfold pairsK at h
  split at h
  · obtain ⟨p, hp, h1, h2⟩ := inL_mem (by assumption)
    obtain ⟨hr, he⟩ := even_rows p hp
    have hb := rows_bd _ hr
    simp only at hb
    have e : Int.tmod r 2 = 0 := by simpa using h
    rw [Int.tmod_eq_emod_of_nonneg (by omega)] at e
    exact ⟨_, hr, ⟨h1, h2, by simp only; omega⟩, wrap32_id _ (by omega)⟩
  · split at h
    · obtain ⟨p, hp, h1, h2⟩ := inL_mem (by assumption)
      obtain ⟨hr, he⟩ := odd_rows p hp
      have hb := rows_bd _ hr
      simp only at hb
      have e : Int.tmod r 2 = 1 := by simpa using h
      rw [Int.tmod_eq_emod_of_nonneg (by omega)] at e
      exact ⟨_, hr, ⟨h1, h2, by simp only; omega⟩, wrap32_id _ (by omega)⟩
    · cases h
theorem one_row {r v u : Int} (hl : (v, v, 1, u - v) ∈ foldRows) (h : (r == v) = true) : ∃ x ∈ foldRows, hit r x ∧ u = r + x.2.2.2 := by
  have e : r = v := by simpa using h
  subst e
  exact ⟨_, hl, ⟨Int.le_refl _, Int.le_refl _, by simp⟩, by simp only; omega⟩
def madeOf (r v : Int) : Prop := v = r ∨ ∃ x ∈ foldRows, hit r x ∧ v = r + x.2.2.2
theorem made_if {c : Bool} {r a b : Int} (h : c = true → madeOf r a) (k : madeOf r b) : madeOf r (if c then a else b) := by
  cases c with
  | true => exact h rfl
  | false => exact k
theorem made_single (r : Int) : madeOf r (singleK r) := by
  unfold singleK
  refine made_if (fun h => .inr (one_row (v := 376) (by decide) h)) ?_
  refine made_if (fun h => .inr (one_row (v := 383) (by decide) h)) ?_
  refine made_if (fun h => .inr (one_row (v := 902) (by decide) h)) ?_
  refine made_if (fun h => .inr (one_row (v := 908) (by decide) h)) ?_
  refine made_if (fun h => .inr (one_row (v := 962) (by decide) h)) ?_
  refine made_if (fun h => .inr (one_row (v := 7838) (by decide) h)) ?_
  refine made_if (fun h => .inr (one_row (v := 8486) (by decide) h)) ?_
  refine made_if (fun h => .inr (one_row (v := 8490) (by decide) h)) ?_
  refine made_if (fun h => .inr (one_row (v := 8491) (by decide) h)) ?_
  exact .inl rfl
theorem fold_cases (r : Int) : madeOf r (foldK r) := by
  unfold foldK
  refine made_if (fun h => .inr (pair_row h)) ?_
  refine made_if (fun h => .inr (add_row (l := addL0) (by decide) h)) ?_
  refine made_if (fun h => .inr (add_row (l := addL1) (by decide) h)) ?_
  refine made_if (fun h => .inr (add_row (l := addL2) (by decide) h)) ?_
  refine made_if (fun h => .inr (add_row (l := addL3) (by decide) h)) ?_
  refine made_if (fun h => .inr (add_row (l := addL4) (by decide) h)) ?_
  refine made_if (fun h => .inr (add_row (l := addL5) (by decide) h)) ?_
  refine made_if (fun h => .inr (add_row (l := addL6) (by decide) h)) ?_
  refine made_if (fun h => .inr (add_row (l := addL7) (by decide) h)) ?_
  exact made_single r

/-- No row says anything of what another one makes. -/
def apartB (x y : Int × Int × Int × Int) : Bool := decide (x.2.1 + x.2.2.2 < y.1) || decide (y.2.1 < x.1 + x.2.2.2) || (x.2.2.1 == 2 && y.2.2.1 == 2 && (x.1 + x.2.2.2 - y.1) % 2 == 1)
theorem rows_apart : (foldRows.all fun x => foldRows.all fun y => apartB x y) = true := by decide +kernel
theorem fold_fold (r : Int) : foldK (foldK r) = foldK r := by
  rcases fold_cases r with h | ⟨x, hx, hh, h⟩
  · rw [h, h]
  · rw [h]
    rcases fold_cases (r + x.2.2.2) with h' | ⟨y, hy, hk, h'⟩
    · exact h'
    · exfalso
      have ha := rows_apart
      rw [List.all_eq_true] at ha
      have ha := ha x hx
      rw [List.all_eq_true] at ha
      have ha := ha y hy
      unfold apartB at ha
      simp only [Bool.or_eq_true, Bool.and_eq_true, decide_eq_true_eq, beq_iff_eq] at ha
      obtain ⟨a1, a2, a3⟩ := hh
      obtain ⟨b1, b2, b3⟩ := hk
      rcases ha with (h1 | h1) | ⟨⟨h1, h2⟩, h3⟩
      · omega
      · omega
      · rw [h1] at a3; rw [h2] at b3; omega
/-- A list of ranges says the same of all that a row speaks of and of what it makes of them. -/
def sameB (x : Int × Int × Int × Int) (p : Int × Int) : Bool :=
  ((decide (x.2.1 < p.1) || decide (p.2 < x.1)) && (decide (x.2.1 + x.2.2.2 < p.1) || decide (p.2 < x.1 + x.2.2.2))) || (decide (p.1 ≤ x.1) && decide (x.2.1 ≤ p.2) && decide (p.1 ≤ x.1 + x.2.2.2) && decide (x.2.1 + x.2.2.2 ≤ p.2))
theorem same_in {x : Int × Int × Int × Int} {p : Int × Int} {r : Int} (h : sameB x p = true) (hr : hit r x) : inB (r + x.2.2.2) p.1 p.2 = inB r p.1 p.2 := by
  unfold sameB at h
  simp only [Bool.or_eq_true, Bool.and_eq_true, decide_eq_true_eq] at h
  obtain ⟨a1, a2, -⟩ := hr
  unfold inB
  rw [Bool.eq_iff_iff]
  simp only [Bool.and_eq_true, decide_eq_true_eq]
  omega
theorem same_list {l : List (Int × Int)} (hl : (foldRows.all fun x => l.all fun p => sameB x p) = true) {x : Int × Int × Int × Int} (hx : x ∈ foldRows) {r : Int} (hr : hit r x) : inL l (r + x.2.2.2) = inL l r := by
  rw [List.all_eq_true] at hl
  have hl := hl x hx
  rw [List.all_eq_true] at hl
  unfold inL
  rw [Bool.eq_iff_iff, List.any_eq_true, List.any_eq_true]
  constructor
  · rintro ⟨p, hp, h⟩; exact ⟨p, hp, (same_in (hl p hp) hr).symm.trans h⟩
  · rintro ⟨p, hp, h⟩; exact ⟨p, hp, (same_in (hl p hp) hr).trans h⟩
theorem inO_inL (l : List Int) (r : Int) : inO l r = inL (l.map fun b => (b, b)) r := by
  unfold inO inL inB
  rw [List.any_map]
  rw [Bool.eq_iff_iff, List.any_eq_true, List.any_eq_true]
  constructor
  · rintro ⟨p, hp, h⟩; exact ⟨p, hp, by simp at h ⊢; omega⟩
  · rintro ⟨p, hp, h⟩; exact ⟨p, hp, by simp at h ⊢; omega⟩
theorem rows_blank : (foldRows.all fun x => (blankL.map fun b => (b, b)).all fun p => sameB x p) = true := by decide +kernel
theorem rows_zero : (foldRows.all fun x => zeroL.all fun p => sameB x p) = true := by decide +kernel
theorem rows_zerom : (foldRows.all fun x => zeroM.all fun p => sameB x p) = true := by decide +kernel
theorem rows_feff : (foldRows.all fun x => [(65279, 65279)].all fun p => sameB x p) = true := by decide +kernel
theorem rows_two : (foldRows.all fun x => twoL.all fun p => sameB x p) = true := by decide +kernel
theorem fold_blank (r : Int) : blankK (foldK r) = blankK r := by
  rcases fold_cases r with h | ⟨x, hx, hh, h⟩
  · rw [h]
  · rw [h]; unfold blankK; rw [inO_inL, inO_inL]; exact same_list rows_blank hx hh
theorem eq_inL (r v : Int) : (r == v) = inL [(v, v)] r := by
  unfold inL inB; rw [Bool.eq_iff_iff]; simp; omega
theorem fold_width (r : Int) : widthK (foldK r) = widthK r := by
  rcases fold_cases r with h | ⟨x, hx, hh, h⟩
  · rw [h]
  · rw [h]; unfold widthK; rw [eq_inL, eq_inL, same_list rows_zero hx hh, same_list rows_zerom hx hh, same_list rows_feff hx hh, same_list rows_two hx hh]
theorem blank_words : ∀ b ∈ blankL, wordK b = false := by decide +kernel
theorem blank_word {r : Int} (h : blankK r = true) : wordK r = false := blank_words r (inO_mem h)
theorem end_blanks : ∀ b ∈ endL, blankK b = true ∧ widthK b = 0 := by decide +kernel
theorem end_blank {r : Int} (h : endK r = true) : blankK r = true ∧ widthK r = 0 := end_blanks r (inO_mem h)
theorem widthK_in (r : Int) : widthK r = 0 ∨ widthK r = 1 ∨ widthK r = 2 := by
  unfold widthK; split; exact .inl rfl; split; exact .inr (.inr rfl); exact .inr (.inl rfl)

/-- Runes that rows speak of, and what becomes of them: none is FFFD, all may be. -/
theorem rows_plain : (foldRows.all fun x => (decide (x.2.1 < 55296) || decide (57343 < x.1)) && (decide (x.2.1 + x.2.2.2 < 55296) || decide (57343 < x.1 + x.2.2.2)) && (decide (x.2.1 < 65533) || decide (65533 < x.1)) && (decide (x.2.1 + x.2.2.2 < 65533) || decide (65533 < x.1 + x.2.2.2)) && decide (0 ≤ x.1) && decide (x.2.1 ≤ 1114111) && decide (0 ≤ x.1 + x.2.2.2) && decide (x.2.1 + x.2.2.2 ≤ 1114111)) = true := by decide +kernel
/-- A rune that may be, and is not FFFD. -/
def plainR (r : Int) : Prop := 0 ≤ r ∧ r ≤ 1114111 ∧ ¬ (55296 ≤ r ∧ r ≤ 57343) ∧ r ≠ 65533
theorem fold_plain (r : Int) : foldK r = r ∨ (plainR r ∧ plainR (foldK r)) := by
  rcases fold_cases r with h | ⟨x, hx, hh, h⟩
  · exact .inl h
  · right
    rw [h]
    have hp := rows_plain
    rw [List.all_eq_true] at hp
    have hp := hp x hx
    simp only [Bool.or_eq_true, Bool.and_eq_true, decide_eq_true_eq] at hp
    obtain ⟨a1, a2, -⟩ := hh
    unfold plainR
    omega
theorem toU8 {a b : Int} (ha : 0 ≤ a ∧ a < 256) (hb : 0 ≤ b ∧ b < 256) (h : a.toNat.toUInt8 = b.toNat.toUInt8) : a = b := by
  have h2 := congrArg UInt8.toNat h
  have ea : a.toNat.toUInt8.toNat = a.toNat := by simp; omega
  have eb : b.toNat.toUInt8.toNat = b.toNat := by simp; omega
  rw [ea, eb] at h2
  omega
theorem enc_plain {r : Int} (h : plainR r) : Lib.encodeRune r ≠ [239, 191, 189] := by
  obtain ⟨h0, h1, h2, h3⟩ := h
  unfold Lib.encodeRune
  by_cases c1 : r ≤ 127
  · rw [Lib.encodeRuneZ_one h0 c1]; intro e; simp at e
  · by_cases c2 : r ≤ 2047
    · rw [Lib.encodeRuneZ_two (by omega) c2]; intro e; simp at e
    · by_cases c3 : r ≤ 65535
      · rw [Lib.encodeRuneZ_three (by omega)]
        intro e
        simp only [List.map_cons, List.map_nil, List.cons.injEq, and_true] at e
        obtain ⟨e1, e2, e3⟩ := e
        have f1 := toU8 (a := 224 + r / 4096) (b := 239) (by omega) (by omega) e1
        have f2 := toU8 (a := 128 + r / 64 % 64) (b := 191) (by omega) (by omega) e2
        have f3 := toU8 (a := 128 + r % 64) (b := 189) (by omega) (by omega) e3
        omega
      · rw [Lib.encodeRuneZ_four (by omega) h1]; intro e; simp at e
theorem encode_list (z : Int) : Utf8.encode z = ⟨(Lib.encodeRune z).toArray⟩ := by
  unfold Utf8.encode Lib.encodeRune
  have hv : Utf8.valid z = decide ((0 ≤ z ∧ z < 55296) ∨ (57343 < z ∧ z ≤ 1114111)) := by
    unfold Utf8.valid
    rw [Bool.eq_iff_iff]
    simp only [Bool.or_eq_true, Bool.and_eq_true, decide_eq_true_eq]
    omega
  rw [hv]
  by_cases hm : (0 ≤ z ∧ z < 55296) ∨ (57343 < z ∧ z ≤ 1114111)
  · rw [decide_eq_true hm]
    simp only [if_true]
    obtain ⟨n, rfl⟩ : ∃ n : Nat, z = (n : Int) := ⟨z.toNat, by omega⟩
    rw [Int.toNat_natCast]
    by_cases h1 : n < 128
    · rw [Lib.encodeRuneZ_one (by omega) (by omega), if_pos h1]; rfl
    · rw [if_neg h1]
      by_cases h2 : n < 2048
      · rw [Lib.encodeRuneZ_two (by omega) (by omega), if_pos h2]; rfl
      · rw [if_neg h2]
        by_cases h3 : n < 65536
        · rw [Lib.encodeRuneZ_three (by omega), if_pos h3]; rfl
        · rw [Lib.encodeRuneZ_four (by omega) (by omega), if_neg h3]; rfl
  · rw [decide_eq_false hm, Lib.encodeRuneZ_bad (by omega)]
    simp only [Bool.false_eq_true, if_false, Utf8.runeError]
    rfl
theorem encode_size (z : Int) : (Utf8.encode z).size ≤ 4 := by
  rw [encode_list]
  have := Lib.runeCells_le z
  rw [Lib.runeCells_length] at this
  simpa [ByteArray.size] using this.2
theorem encode_plain {r : Int} (h : plainR r) : Utf8.encode r ≠ ⟨#[239, 191, 189]⟩ := by
  rw [encode_list]
  intro e
  refine enc_plain h ?_
  have := congrArg (fun b : ByteArray => b.data.toList) e
  simpa using this
end Go.Proofs.Ytedfnppekikcpaa
namespace Go.Proofs.Ytedfnppekikcpaa
open Go.ChangeShapes Go.WideShapes Go.ChangeAt Go.RowKit
set_option linter.unusedVariables false

theorem own : ownKnob Try.prog.godebug = none := by kernel_rfl
theorem laidOut : laidOutB Try.prog = true := by kernel_rfl
theorem size_of_sized {s : ByteArray} (h : s.data.toList.length ≤ reachBytes) : s.size ≤ 140737488351232 := by
  have : s.data.toList.length = s.size := by simp
  have e : reachBytes = 140737488351232 := by decide
  omega
theorem bulk_pos {H : Type} (d : DataW H) : 1 ≤ Rows.uptoBulk d := by
  cases d with
  | lit l => cases l <;> simp [Rows.uptoBulk]
  | _ => simp [Rows.uptoBulk]
theorem bulk_len {H : Type} (l : List (DataW H)) : l.length ≤ Rows.uptoBulkAll l := by
  induction l with
  | nil => simp [Rows.uptoBulkAll]
  | cons d r ih =>
    have := bulk_pos d
    simp only [Rows.uptoBulkAll, List.length_cons]
    omega
theorem bulk_string {H : Type} (s : ByteArray) : s.size ≤ Rows.uptoBulk (H := H) (.lit (.string s.data.toList)) := by
  simp [Rows.uptoBulk]
theorem bulk_nums {H : Type} {d : DataW H} {zs : List Int} (h : d = .nil ∧ zs = [] ∨ ∃ el sp, d = .slice el sp ∧ el.length = zs.length) : zs.length ≤ Rows.uptoBulk d := by
  rcases h with ⟨_, rfl⟩ | ⟨el, sp, rfl, h⟩
  · simp
  · have := bulk_len el
    simp only [Rows.uptoBulk]
    omega
theorem bulk_of {H : Type} {l : List (DataW H)} (h : Rows.uptoSmall H l = true) : Rows.uptoBulkAll l ≤ 1048576 := of_decide_eq_true h

theorem Try.bytes32 : Try.prog.bytesOf 21 = 4 := by kernel_rfl
end Go.Proofs.Ytedfnppekikcpaa
namespace Go.Proofs.Ytedfnppekikcpaa
open Go.ChangeShapes Go.WideShapes Go.ChangeAt Go.RowKit
set_option linter.unusedVariables false

theorem gatherQ {α : Type} {Q : Nat → α → Prop} : ∀ n, (∀ i, i < n → ∃ x, Q i x) → ∃ xs : List α, xs.length = n ∧ ∀ i x, xs[i]? = some x → Q i x := by
  intro n
  induction n with
  | zero => intro _; exact ⟨[], rfl, fun i x h => by simp at h⟩
  | succ n ih =>
    intro h
    obtain ⟨xs, hl, hq⟩ := ih (fun i hi => h i (by omega))
    obtain ⟨y, hy⟩ := h n (by omega)
    refine ⟨xs ++ [y], by rw [List.length_append, hl]; rfl, fun i x hx => ?_⟩
    by_cases hi : i < xs.length
    · rw [List.getElem?_append_left hi] at hx
      exact hq i x hx
    · rw [List.getElem?_append_right (by omega)] at hx
      have hlt := (List.getElem?_eq_some_iff.1 hx).1
      simp at hlt
      have e : i - xs.length = 0 := by omega
      rw [e] at hx
      simp at hx
      subst hx
      have : i = n := by omega
      subst this
      exact hy
/-- What a row of so many cells an element holds. -/
def RowW {α : Type} (sz : Nat) (vals : α → List Value) (W : World) (a : Option Addr) (xs : List α) : Prop :=
  xs = [] ∨ ∃ b off, a = some ⟨b, off, none⟩ ∧ b < W.heap.size ∧ ∀ i x, xs[i]? = some x → ∀ j v, (vals x)[j]? = some v → W.cell? ⟨b, off + i * sz + j, none⟩ = some v
theorem RowW.below {α : Type} {sz : Nat} {vals : α → List Value} {W W' : World} {a : Option Addr} {xs : List α} (h : RowW sz vals W a xs) (hB : Below W.heap.size W W') : RowW sz vals W' a xs := by
  rcases h with h | ⟨b, off, e, hb, hc⟩
  · exact .inl h
  · exact .inr ⟨b, off, e, Nat.lt_of_lt_of_le hb hB.size, fun i x hx j v hv => (hB.cell hb).trans (hc i x hx j v hv)⟩
theorem RowW.at {α : Type} {sz : Nat} {vals : α → List Value} {W : World} {a : Option Addr} {xs : List α} (h : RowW sz vals W a xs) {i : Nat} {x : α} (hx : xs[i]? = some x) : ∃ b off, a = some ⟨b, off, none⟩ ∧ b < W.heap.size ∧ ∀ j v, (vals x)[j]? = some v → W.cell? ⟨b, off + i * sz + j, none⟩ = some v := by
  rcases h with h | ⟨b, off, e, hb, hc⟩
  · rw [h] at hx; simp at hx
  · exact ⟨b, off, e, hb, hc i x hx⟩
theorem bulk_appR {H : Type} (l m : List (DataW H)) : Rows.uptoBulkAll (l ++ m) = Rows.uptoBulkAll l + Rows.uptoBulkAll m := by
  induction l with
  | nil => simp [Rows.uptoBulkAll]
  | cons d r ih => simp only [List.cons_append, Rows.uptoBulkAll, ih]; omega
theorem bulk_sumR {H α : Type} (f : α → Nat) (D : Nat → DataW H) (xs : List α) (h : ∀ i x, xs[i]? = some x → f x ≤ Rows.uptoBulk (D i)) : (xs.map f).sum ≤ Rows.uptoBulkAll ((List.range xs.length).map D) := by
  have key : ∀ n, n ≤ xs.length → ((xs.take n).map f).sum ≤ Rows.uptoBulkAll ((List.range n).map D) := by
    intro n
    induction n with
    | zero => intro _; simp
    | succ n ih =>
      intro hn
      have h1 := ih (by omega)
      have h2 := h n _ (List.getElem?_eq_getElem (by omega))
      rw [List.take_succ_eq_append_getElem (by omega), List.map_append, List.sum_append, List.range_succ, List.map_append, bulk_appR]
      simp only [List.map_cons, List.map_nil, List.sum_cons, List.sum_nil, Rows.uptoBulkAll]
      omega
  have := key xs.length (Nat.le_refl _)
  rw [List.take_length] at this
  exact this
set_option maxRecDepth 100000 in
theorem open_row {α H : Type} {enc : TypeId × Value → H} {W : World} {t e : TypeId} {sz fuel : Nat} (vals : α → List Value) (Q : α → DataW H → Prop) (f : α → Nat) (ht : Try.prog.underlying t = some (.slice e)) (hc : Try.prog.cellsOf e = sz) (hsz : 0 < sz) (hvl : ∀ x, (vals x).length = sz)
    (hel : ∀ fuel cs x, DataW.trod enc Try.prog W 0 (fun _ => true) true fuel e cs = some x → ∃ a, cs = vals a ∧ Q a x.1 ∧ f a ≤ Rows.uptoBulk x.1) {a : Option Addr} {len cap : Nat} {x : DataW H × List MemPlace} (h : DataW.trod enc Try.prog W 0 (fun _ => true) true fuel t [.slice a len cap] = some x) :
    ∃ xs : List α, len = xs.length ∧ RowW sz vals W a xs ∧ (∀ x ∈ xs, ∃ d, Q x d) ∧ (xs.map f).sum + 1 ≤ Rows.uptoBulk x.1 ∧ len ≤ cap ∧ cap ≤ maxLen ∧ (a = none → xs = [] ∧ cap = 0) := by
  rcases Go.Deep.open_slice ht h with ⟨hcs, hx0⟩ | ⟨ad, l, c, m, n, D, Pl, hcs, _, hl, hm, hmm, hx, hele⟩
  · simp at hcs
    obtain ⟨rfl, rfl, rfl⟩ := hcs
    subst hx0
    exact ⟨[], rfl, .inl rfl, by simp, by simp [Rows.uptoBulk], Nat.le_refl _, Nat.zero_le _, fun _ => ⟨rfl, rfl⟩⟩
  · simp at hcs
    obtain ⟨rfl, rfl, rfl⟩ := hcs
    have hlm : len ≤ m := by rw [hmm]; simp; exact hl
    rw [hc] at hele
    obtain ⟨xs, hxl, hxq⟩ := gatherQ (Q := fun i x => Q x (D i) ∧ f x ≤ Rows.uptoBulk (D i) ∧ W.cells? 0 (ad.add (i * sz)) sz = some (vals x)) len (fun i hi => by
      obtain ⟨cs', h1, h2⟩ := hele i (by omega)
      obtain ⟨y, rfl, hq, hk⟩ := hel _ _ _ h2
      exact ⟨y, hq, hk, h1⟩)
    refine ⟨xs, hxl.symm, ?_, ?_, ?_, hl, hm, fun h => by cases h⟩
    · by_cases h0 : len = 0
      · exact .inl (List.eq_nil_of_length_eq_zero (by omega))
      · obtain ⟨b, off, spot⟩ := ad
        obtain ⟨x0, hx0⟩ : ∃ x, xs[0]? = some x := ⟨_, List.getElem?_eq_getElem (by omega)⟩
        obtain ⟨v0, hv0⟩ : ∃ v, (vals x0)[0]? = some v := ⟨_, List.getElem?_eq_getElem (by rw [hvl]; exact hsz)⟩
        have hc0 : W.cell? ⟨b, off, spot⟩ = some v0 := by
          obtain ⟨_, _, hcc⟩ := World.cells?_some (hxq 0 x0 hx0).2.2
          have h1 := hcc 0 (by omega)
          have e : ((⟨b, off, spot⟩ : Addr).add (0 * sz)).add 0 = ⟨b, off, spot⟩ := by simp [Addr.add]
          rw [e, hv0] at h1
          exact h1
        have hspot : spot = none := by simpa using World.cell?_spot hc0
        subst hspot
        refine .inr ⟨b, off, rfl, World.block_lt_of_cell? _ _ hc0, fun i x hx j v hv => ?_⟩
        have hj : j < sz := by have := (List.getElem?_eq_some_iff.1 hv).1; rw [hvl] at this; exact this
        obtain ⟨_, _, hcc⟩ := World.cells?_some (hxq i x hx).2.2
        have h1 := hcc j hj
        rw [hv] at h1
        have e1 : (⟨b, off, none⟩ : Addr).add (i * sz) = ⟨b, off + i * sz, none⟩ := by simp [Addr.add]
        have e2 : (⟨b, off + i * sz, none⟩ : Addr).add j = ⟨b, off + i * sz + j, none⟩ := by simp [Addr.add]
        rw [e1, e2] at h1
        exact h1
    · intro y hy
      obtain ⟨i, hi⟩ := List.getElem?_of_mem hy
      exact ⟨_, (hxq i y hi).1⟩
    · have h1 := bulk_sumR f D xs (fun i x hi => (hxq i x hi).2.1)
      rw [hx, ← hxl]
      simp only [Rows.uptoBulk]
      omega
end Go.Proofs.Ytedfnppekikcpaa
namespace Go.Proofs.Ytedfnppekikcpaa
open Go.RowKit Go.Shelf
set_option linter.unusedVariables false
set_option linter.unusedSimpArgs false

theorem Try.infoBt : (Try.prog.info? 42).map (fun i => (i.zero, i.size, i.bytes)) = some (some (.agg #[.int .i32 0, .bool false, .int .i64 0]), 3, 16) := by kernel_rfl
/-- A part as it is handed in. -/
abbrev Rb := Int × Bool × Int
def rbC (b : Rb) : List Value := [.int .i32 b.1, .bool b.2.1, .int .i64 b.2.2]
def RbOk (b : Rb) : Prop := (-2147483648 ≤ b.1 ∧ b.1 ≤ 2147483647) ∧ (-9223372036854775808 ≤ b.2.2 ∧ b.2.2 ≤ 9223372036854775807)
/-- What a row of parts holds. -/
def SlBt (W : World) (a : Option Addr) (bs : List Bt) : Prop :=
  bs = [] ∨ ∃ g, a = some ⟨g, 0, none⟩ ∧ g < W.heap.size ∧ ∀ (i : Nat) (b : Bt), bs[i]? = some b → W.cell? ⟨g, i * 3, none⟩ = some (.int .i32 b.1) ∧ W.cell? ⟨g, i * 3 + 1, none⟩ = some (.bool b.2.1) ∧ W.cell? ⟨g, i * 3 + 2, none⟩ = some (.int .i64 (b.2.2 : Int))
theorem SlBt.below {W W' : World} {a : Option Addr} {bs : List Bt} (h : SlBt W a bs) (hb : Below W.heap.size W W') : SlBt W' a bs := by
  rcases h with h | ⟨g, ha, hl, hs⟩
  · exact .inl h
  · refine .inr ⟨g, ha, Nat.lt_of_lt_of_le hl hb.size, fun i b hi => ?_⟩
    obtain ⟨h1, h2, h3⟩ := hs i b hi
    exact ⟨(hb.cell (p := ⟨g, i * 3, none⟩) hl).trans h1, (hb.cell (p := ⟨g, i * 3 + 1, none⟩) hl).trans h2, (hb.cell (p := ⟨g, i * 3 + 2, none⟩) hl).trans h3⟩
theorem bits_at (bs : List Bt) : ∀ (i : Nat) (b : Bt), bs[i]? = some b → ∀ j, j < 3 → (bs.flatMap bitC)[i * 3 + j]? = (bitC b)[j]? := by
  induction bs with
  | nil => intro i b h; simp at h
  | cons x l ih =>
    intro i b h j hj
    rw [List.flatMap_cons]
    cases i with
    | zero =>
      simp at h
      subst h
      rw [List.getElem?_append_left (by simp [bitC]; omega)]
      simp
    | succ i =>
      simp at h
      rw [List.getElem?_append_right (by simp [bitC]; omega), ← ih i b h j hj]
      congr 1
      simp [bitC]
      omega
theorem slbt_of_owns {W : World} {base : Nat} {v : Value} {bs : List Bt} (h : W.ownsRow base 42 3 v bs.length (bs.flatMap bitC)) : ∃ a cap, v = .slice a bs.length cap ∧ SlBt W a bs := by
  rcases h.2 with ⟨rfl, h0⟩ | ⟨g, cap, cur, rfl, _, hg, hn, _, hs, hc⟩
  · exact ⟨none, 0, by rw [h0], .inl (List.eq_nil_of_length_eq_zero h0)⟩
  · refine ⟨_, cap, rfl, .inr ⟨g, rfl, (Array.getElem?_eq_some_iff.1 hg).1, fun i b hi => ?_⟩⟩
    have hil : i < bs.length := (List.getElem?_eq_some_iff.1 hi).1
    have key : ∀ j, j < 3 → W.cell? ⟨g, i * 3 + j, none⟩ = (bitC b)[j]? := by
      intro j hj
      have h1 := bits_at bs i b hi j hj
      rw [← hc, List.getElem?_take, if_pos (by omega)] at h1
      simp only [World.cell?, hg]
      rw [← h1]
      simp
    exact ⟨key 0 (by omega), key 1 (by omega), key 2 (by omega)⟩
theorem box3_facts {W : World} {B : Nat} {t : TypeId} {a0 a1 a2 : Value} (h : W.heap[B]? = some (.cells #[a0, a1, a2] t (0, 0))) :
    W.cell? ⟨B, 0, none⟩ = some a0 ∧ W.cell? ⟨B, 1, none⟩ = some a1 ∧ W.cell? ⟨B, 2, none⟩ = some a2 ∧ ∀ o, W.frozen? ⟨B, o, none⟩ = false :=
  ⟨cel2 h 0 _ rfl, cel2 h 1 _ rfl, cel2 h 2 _ rfl, fun o => by simp [World.frozen?, h]⟩
theorem cell_three_new (W : World) (t : TypeId) (a b c : Value) : ∀ (j : Nat) (u : Value), [a, b, c][j]? = some u → (W.alloc (.cells #[a, b, c] t)).cell? ((⟨W.heap.size, 0, none⟩ : Addr).add j) = some u := by
  intro j u hu
  rw [addr_addS]
  refine cel2 (heap_alloc_new W _) j u ?_
  simpa using hu
def outB (bs : List Bt) : ByteArray := ⟨(bs.flatMap tB).toArray⟩
theorem outB_size {bs : List Bt} (h : ∀ b ∈ bs, BtOk b) : (outB bs).size ≤ 5 * bs.length := by
  have : (outB bs).size = (bs.flatMap tB).length := by simp [outB, ByteArray.size]
  rw [this]
  induction bs with
  | nil => simp
  | cons b bs ih =>
    rw [List.flatMap_cons, List.length_append, List.length_cons]
    have h1 := tB_len (h b (List.mem_cons_self ..)).1
    have h2 := ih (fun c hc => h c (List.mem_cons_of_mem _ hc)) (by simp [outB, ByteArray.size])
    omega
theorem outB_snoc (bs : List Bt) (b : Bt) : outB (bs ++ [b]) = outB bs ++ ⟨(atB b).toArray⟩ ++ ⟨(cB b.2.2).toArray⟩ := by
  apply ByteArray.ext
  apply Array.toList_inj.1
  simp [outB, tB, ByteArray.data_append]
end Go.Proofs.Ytedfnppekikcpaa
namespace Go.Proofs.Ytedfnppekikcpaa
open Go.RowKit Go.Shelf
set_option linter.unusedVariables false
set_option linter.unusedSimpArgs false

theorem Try.infoBool : (Try.prog.info? 4).map (fun i => (i.zero, i.size, i.bytes)) = some (some (.bool false), 1, 1) := by kernel_rfl
theorem made_repB (v : Value) (n : Nat) : madeCells #[v] n = (List.replicate n v).toArray := by
  apply Array.ext
  · simp [madeCells]
  · intro i h1 h2
    simp [madeCells, Nat.mod_one]
/-- A row of bools. -/
def RowB (W : World) (R n : Nat) (f : Nat → Bool) : Prop := ∃ cs : Array Value, W.heap[R]? = some (.cells cs 4 (0, 0)) ∧ cs.size = n + 1 ∧ ∀ m, m ≤ n → cs[m]? = some (.bool (f m))
theorem RowB.cell {W : World} {R n : Nat} {f : Nat → Bool} (h : RowB W R n f) {m : Nat} (hm : m ≤ n) : W.cell? ⟨R, m, none⟩ = some (.bool (f m)) := by
  obtain ⟨cs, h1, _, h3⟩ := h
  simp only [World.cell?, h1]
  exact h3 m hm
theorem RowB.frz {W : World} {R n : Nat} {f : Nat → Bool} (h : RowB W R n f) (m : Nat) : W.frozen? ⟨R, m, none⟩ = false := by
  obtain ⟨cs, h1, _, _⟩ := h
  simp [World.frozen?, h1]
theorem RowB.lt {W : World} {R n : Nat} {f : Nat → Bool} (h : RowB W R n f) : R < W.heap.size := by
  obtain ⟨cs, h1, _, _⟩ := h
  exact (Array.getElem?_eq_some_iff.1 h1).1
theorem RowB.below {W W' : World} {R n : Nat} {f : Nat → Bool} (h : RowB W R n f) (hb : Below W.heap.size W W') : RowB W' R n f := by
  have hl := h.lt
  obtain ⟨cs, h1, h2⟩ := h
  exact ⟨cs, (hb.block R hl).trans h1, h2⟩
theorem RowB.set {W : World} {R n : Nat} {f : Nat → Bool} (h : RowB W R n f) {k : Nat} (hk : k ≤ n) (b : Bool) : RowB (W.setCell ⟨R, k, none⟩ (.bool b)) R n (fun m => if m = k then b else f m) := by
  obtain ⟨cs, h1, h2, h3⟩ := h
  refine ⟨cs.setIfInBounds k (.bool b), heap_setCell_same W R k _ _ _ h1, by simp [h2], fun m hm => ?_⟩
  simp only
  by_cases e : m = k
  · subst e
    rw [if_pos rfl]
    simp [Array.getElem?_setIfInBounds, h2]
    omega
  · rw [if_neg e, Array.getElem?_setIfInBounds_ne (fun h => e h.symm)]
    exact h3 m hm
theorem RowB.other {W : World} {R M n k : Nat} {f : Nat → Bool} {v : Value} (h : RowB W R n f) (hne : R ≠ M) : RowB (W.setCell ⟨M, k, none⟩ v) R n f := by
  obtain ⟨cs, h1, h2⟩ := h
  exact ⟨cs, (heap_setCell_other W ⟨M, k, none⟩ R v hne).trans h1, h2⟩
theorem RowB.make (W : World) (n : Nat) : RowB (W.alloc (.cells (madeCells #[.bool false] (n + 1)) 4)) W.heap.size n (fun _ => false) := by
  refine ⟨_, heap_alloc_new W _, by rw [made_repB]; simp, fun m hm => ?_⟩
  rw [made_repB, List.getElem?_toArray, List.getElem?_replicate, if_pos (by omega)]
theorem RowB.congr {W : World} {R n : Nat} {f g : Nat → Bool} (h : RowB W R n f) (hfg : ∀ m, m ≤ n → f m = g m) : RowB W R n g := by
  obtain ⟨cs, h1, h2, h3⟩ := h
  exact ⟨cs, h1, h2, fun m hm => by rw [h3 m hm, hfg m hm]⟩
end Go.Proofs.Ytedfnppekikcpaa
