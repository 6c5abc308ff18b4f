/- What the document's Chars, Count, At, Of and Begins answer. -/
import Derived.Test.YtihfnnhfpohakaaURef2
import Derived.Test.YtihfnnhfpohakaaUOrdM
import Derived.Test.YtihfnnhfpohakaaURun
import Derived.OwnWalk
import Derived.WalkSmall
namespace Go.Proofs.Ytihfnnhfpohakaa
open Go.RowKit
set_option linter.unusedVariables false

/-- A character's four cells. -/
def rightE (e : Nat × Nat × Nat) : Bool := decide (1 < e.2.2) || decide (e.2.1 ≠ 65533)
def cell4 (e : Nat × Nat × Nat) : List Value := [.int .i64 (e.1 : Int), .int .i32 (e.2.1 : Int), .int .i64 (e.2.2 : Int), .bool (rightE e)]
def cells4 (l : List (Nat × Nat × Nat)) : List Value := l.flatMap cell4
theorem cells4_len (l : List (Nat × Nat × Nat)) : (cells4 l).length = l.length * 4 := by
  induction l with
  | nil => rfl
  | cons e l ih => unfold cells4 at *; rw [List.flatMap_cons, List.length_append, ih]; simp [cell4]; omega
theorem cells4_snoc (l : List (Nat × Nat × Nat)) (e : Nat × Nat × Nat) : cells4 (l ++ [e]) = cells4 l ++ cell4 e := by unfold cells4; simp
theorem cells4_at (l : List (Nat × Nat × Nat)) : ∀ (i : Nat) (e : Nat × Nat × Nat), l[i]? = some e → ∀ j, j < 4 → (cells4 l)[4 * i + j]? = (cell4 e)[j]? := by
  induction l with
  | nil => intro i e h; simp at h
  | cons x l ih =>
    intro i e h j hj
    have hx : cells4 (x :: l) = cell4 x ++ cells4 l := by unfold cells4; rw [List.flatMap_cons]
    rw [hx]
    cases i with
    | zero =>
      simp at h
      subst h
      rw [List.getElem?_append_left (by simp [cell4]; omega)]
      simp
    | succ i =>
      simp at h
      rw [List.getElem?_append_right (by simp [cell4]; omega), ← ih i e h j hj]
      congr 1
      simp [cell4]
      omega

/-- What a slice of characters holds. -/
def SlC (w : World) (a : Option Addr) (cs : List (Nat × Nat × Nat)) : Prop :=
  cs = [] ∨ ∃ b, a = some ⟨b, 0, none⟩ ∧ b < w.heap.size ∧ ∀ (i : Nat) (e : Nat × Nat × Nat), cs[i]? = some e →
    w.cell? ⟨b, i * 4, none⟩ = some (.int .i64 (e.1 : Int)) ∧ w.cell? ⟨b, i * 4 + 1, none⟩ = some (.int .i32 (e.2.1 : Int)) ∧ w.cell? ⟨b, i * 4 + 2, none⟩ = some (.int .i64 (e.2.2 : Int)) ∧ w.cell? ⟨b, i * 4 + 3, none⟩ = some (.bool (rightE e))
theorem SlC.below {w w' : World} {a : Option Addr} {cs : List (Nat × Nat × Nat)} (h : SlC w a cs) (hb : Below w.heap.size w w') : SlC w' a cs := by
  rcases h with h | ⟨b, ha, hl, hs⟩
  · exact .inl h
  · refine .inr ⟨b, ha, Nat.lt_of_lt_of_le hl hb.size, fun i e he => ?_⟩
    obtain ⟨h1, h2, h3, h4⟩ := hs i e he
    exact ⟨(hb.cell (p := ⟨b, i * 4, none⟩) hl).trans h1, (hb.cell (p := ⟨b, i * 4 + 1, none⟩) hl).trans h2, (hb.cell (p := ⟨b, i * 4 + 2, none⟩) hl).trans h3, (hb.cell (p := ⟨b, i * 4 + 3, none⟩) hl).trans h4⟩
theorem slc_of_owns {W : World} {base : Nat} {v : Value} {cs : List (Nat × Nat × Nat)} (h : W.ownsRow base 48 4 v cs.length (cells4 cs)) : ∃ a cap, v = .slice a cs.length cap ∧ SlC W a cs := by
  rcases h.2 with ⟨rfl, h0⟩ | ⟨g, cap, cur, rfl, _, hg, hn, _, hs, hc⟩
  · exact ⟨none, 0, by rw [h0], .inl (List.eq_nil_of_length_eq_zero h0)⟩
  · refine ⟨_, cap, rfl, .inr ⟨g, rfl, (Array.getElem?_eq_some_iff.1 hg).1, fun i e he => ?_⟩⟩
    have hi : i < cs.length := (List.getElem?_eq_some_iff.1 he).1
    have key : ∀ j, j < 4 → W.cell? ⟨g, i * 4 + j, none⟩ = (cell4 e)[j]? := by
      intro j hj
      have h1 := cells4_at cs i e he j hj
      rw [← hc, List.getElem?_take, if_pos (by omega)] at h1
      simp only [World.cell?, hg]
      rw [show i * 4 + j = 4 * i + j by omega]
      simpa using h1
    exact ⟨key 0 (by omega), key 1 (by omega), key 2 (by omega), key 3 (by omega)⟩

theorem Try.infoC : (Try.prog.info? 48).map (fun i => (i.zero, i.size, i.bytes)) = some (some (.agg #[.int .i64 0, .int .i32 0, .int .i64 0, .bool false]), 4, 32) := by kernel_rfl
theorem cell_four_new (w : World) (a b c d : Value) (t : TypeId) : ∀ j u, [a, b, c, d][j]? = some u → (w.alloc (.cells #[a, b, c, d] t)).cell? ((⟨w.heap.size, 0, none⟩ : Addr).add j) = some u := by
  intro j u hj
  match j, hj with
  | 0, hj => simp at hj; subst hj; simp [Addr.add]
  | 1, hj => simp at hj; subst hj; simp [Addr.add]
  | 2, hj => simp at hj; subst hj; simp [Addr.add]
  | 3, hj => simp at hj; subst hj; simp [Addr.add]
  | j + 4, hj => simp at hj

theorem rightE_at (l : List UInt8) (p : Nat) : rightE (p, rune l, cw l) = decide (W l ≠ 0) := by
  rw [← right_eq]
  unfold rightE
  have := cw_pos l
  rw [Bool.eq_iff_iff]
  simp only [Bool.or_eq_true, Bool.and_eq_true, decide_eq_true_eq]
  constructor
  · rintro (h | h)
    · exact .inl h
    · by_cases h1 : cw l = 1
      · exact .inr ⟨h1, h⟩
      · exact .inl (by omega)
  · rintro (h | h)
    · exact .inl h
    · exact .inr h.2

set_option maxRecDepth 100000 in
set_option maxHeartbeats 1000000 in
theorem chars_any (s : ByteArray) (w : World) (hs : s.size ≤ 1048576) :
    Calls Try.prog 28 #[.string s] w fun e w' => ∃ a cap, e = .returned (.slice a (Cs 0 (bl s)).length cap) ∧ SlC w' a (Cs 0 (bl s)) ∧ Below w.heap.size w w' := by
  obtain ⟨i0, hi, hz0, hz1, hz2⟩ := info_parts Try.infoC
  go_enter Try.func28, Try.ntmps28
  go_wp2
  go_loopw [3, 4] (fun v q wr => ∃ pos k : Nat, q = .int .i64 pos ∧ k ≤ pos ∧ pos ≤ s.size ∧ Inv (bl s) pos k ∧ wr.ownsRow w.heap.size 48 4 v k (cells4 ((Cs 0 (bl s)).take k)) ∧ Below w.heap.size w wr) (fun _ q _ => s.size - (intOf q).toNat)
  case atStart => exact ⟨0, 0, rfl, by omega, by omega, Inv.start _, World.ownsRow_nil _ _ _ _, Below.refl _ _⟩
  case round =>
    obtain ⟨pos, k, rfl, hkp, hps, hI, hown, hB⟩ := hrel
    by_cases hlt : pos < s.size
    · have hlt' : (pos : Int) < (s.size : Int) := by omega
      have hfv := firstV_ne (bl_drop_ne hlt)
      have kf := fun w => refFirst_any (s.extract pos s.size) w (by rw [ByteArray.size_extract]; omega)
      rw [bl_from, hfv, ← rightE_at _ pos] at kf
      have hh := hI.here (by rw [bl_len]; exact hlt)
      have hst := hI.step (by rw [bl_len]; exact hlt)
      have h1 := cw_pos ((bl s).drop pos)
      have h2 := cw_len _ (bl_drop_ne hlt)
      rw [List.length_drop, bl_len] at h2
      have h4 := cw_le4 ((bl s).drop pos)
      generalize hr : rune ((bl s).drop pos) = r at *
      generalize hc : cw ((bl s).drop pos) = c at *
      generalize hg : rightE (pos, r, c) = g at *
      have KF := hide kf
      have HH := hide hh
      have HST := hide hst
      have HI := hide hI
      have HB := hide hB
      have HG := hide hg
      clear kf hh hst hI hB hfv hr hc hg
      go_wp2_with (first | (go_at_call 36; refine (KF.out _).mono ?_; rintro e w1 ⟨rfl, hB1⟩) | (at_builtin; refine wpList_append_own _ rfl _ _ 44 rfl w.heap.size 48 i0 (.agg #[.int .i64 0, .int .i32 0, .int .i64 0, .bool false]) 4 32 Try.underlying44 hi hz0 hz1 hz2 rfl (by omega) _ _ _ rfl ((ownsRow_below hown hB1).alloc _) ⟨w1.heap.size, 0, none⟩ 1 1 [.int .i64 (pos : Int), .int .i32 (r : Int), .int .i64 (c : Int), .bool g] rfl rfl (cell_four_new _ _ _ _ _ _) (by simp [Value.oneCell']) (by unfold maxLen; omega) (by omega) (by have := HB.out.size; have := hB1.size; simp; omega) ?_; intro v' w2 hown' hgrow _))
      go_roundw
      case rel =>
        refine ⟨pos + c, k + 1, by go_num, by omega, by omega, HST.out, ?_, ?_⟩
        · rw [List.take_add_one, HH.out]
          simp only [Option.toList_some]
          rw [cells4_snoc]
          have e : cell4 (pos, r, c) = [.int .i64 (pos : Int), .int .i32 (r : Int), .int .i64 (c : Int), .bool g] := by unfold cell4; rw [HG.out]
          rw [e]
          exact hown'
        · exact ((bseq HB.out hB1).alloc (bseq HB.out hB1).size _).grown hgrow (by have := HB.out.size; have := hB1.size; simp; omega) (fun j e => (hown.lt j e).1)
      case measure => simp [intOf]; omega
    · have hpp : (s.size : Int) ≤ (pos : Int) := by omega
      have hk := hI.fin (by rw [bl_len]; omega)
      have HK := hide hk
      have HB := hide hB
      have HO := hide hown
      clear hk hB hI hown
      go_wp2
      go_ret
      have h1 := HO.out
      rw [HK.out, List.take_length] at h1
      obtain ⟨a, cap, rfl, hsl⟩ := slc_of_owns h1
      exact ⟨a, cap, rfl, hsl, HB.out⟩

/-- The number of the last one that begins at a place or ahead of it. -/
def lastLe (L : List (Nat × Nat × Nat)) (i : Int) (m : Nat) : Nat := match m with
  | 0 => 0
  | m + 1 => match L[m]? with | some e => if (e.1 : Int) ≤ i then m else lastLe L i m | none => lastLe L i m
theorem lastLe_of (l : List UInt8) (i : Nat) (hi : i < l.length) : (lastLe (Cs 0 l) i (Cs 0 l).length : Int) = (ofN l i : Int) - 1 := by
  obtain ⟨j, ⟨e, he, rfl⟩, h1, h2⟩ := St_cover l i hi
  obtain ⟨k, hk⟩ := List.getElem?_of_mem he
  have hl := Cs_lt hk
  rw [← hl.2.2.2.2.2] at h2
  rw [ofN_at hk h1 h2]
  have hkl := (List.getElem?_eq_some_iff.1 hk).1
  have key : ∀ m, k < m → m ≤ (Cs 0 l).length → lastLe (Cs 0 l) i m = k := by
    intro m
    induction m with
    | zero => intro h; omega
    | succ m ih =>
      intro h hm
      obtain ⟨f, hf⟩ : ∃ f, (Cs 0 l)[m]? = some f := ⟨_, List.getElem?_eq_getElem (by omega)⟩
      unfold lastLe
      rw [hf]
      by_cases hmk : m = k
      · subst hmk
        rw [hk] at hf
        cases hf
        show (if (e.1 : Int) ≤ (i : Int) then m else _) = m
        rw [if_pos (by omega)]
      · have := Cs_two hk hf (by omega)
        show (if (f.1 : Int) ≤ (i : Int) then m else _) = k
        rw [if_neg (by omega)]
        exact ih (by omega) (by omega)
  rw [key _ hkl (Nat.le_refl _)]
  omega

set_option maxHeartbeats 1000000 in
theorem refBegins_any (s : ByteArray) (n : Int) (w : World) (hs : s.size ≤ 1048576) :
    Calls Try.prog 27 #[.string s, .int .i64 n] w fun e w' => e = .returned (.bool (beginsV (bl s) n)) ∧ Below w.heap.size w w' := by
  have kc := fun w => chars_any s w hs
  have hcl := Cs_len_le (bl s)
  rw [bl_len] at hcl
  have hv : beginsV (bl s) n = decide ((∃ e ∈ Cs 0 (bl s), (e.1 : Int) = n) ∨ n = (s.size : Int)) := by
    by_cases hb : n < 0 ∨ (s.size : Int) < n
    · rw [(order_out (bl s) n (by rw [bl_len]; exact hb)).2]
      symm
      apply decide_eq_false
      rintro (⟨e, he, h⟩ | h)
      · have := Cs_mem (bl s) 0 e he
        rw [bl_len] at this
        omega
      · omega
    · obtain ⟨k, rfl⟩ : ∃ k : Nat, n = (k : Int) := ⟨n.toNat, by omega⟩
      unfold beginsV
      rw [bl_len, decide_eq_true (by omega : (0 : Int) ≤ (k : Int)), decide_eq_true (by omega : (k : Int) ≤ (s.size : Int)), Int.toNat_natCast]
      rw [Bool.eq_iff_iff]
      simp only [Bool.true_and, Bool.or_eq_true, decide_eq_true_eq]
      constructor
      · rintro (h | h)
        · exact .inr h
        · by_cases hk : k = s.size
          · exact .inr (by omega)
          · obtain ⟨e, he, hh⟩ := (begins_iff (bl s) k (by rw [bl_len]; omega)).1 h
            exact .inl ⟨e, he, by omega⟩
      · rintro (⟨e, he, hh⟩ | h)
        · have hm := Cs_mem (bl s) 0 e he
          rw [bl_len] at hm
          exact .inr ((begins_iff (bl s) k (by rw [bl_len]; omega)).2 ⟨e, he, by omega⟩)
        · exact .inl h
  have hR : beginsV (bl s) n = true ↔ ((∃ e ∈ Cs 0 (bl s), (e.1 : Int) = n) ∨ n = (s.size : Int)) := by rw [hv, decide_eq_true_eq]
  clear hv
  generalize beginsV (bl s) n = R at *
  generalize Cs 0 (bl s) = L at *
  generalize hm : L.length = m at *
  have KC := hide kc
  have HM := hide hm
  have HR := hide hR
  clear kc hm hR
  go_enter Try.func27, Try.ntmps27
  go_wp2_with (go_at_call 28; refine (KC.out _).mono ?_; rintro e w1 ⟨a, cap, rfl, hsl, hB⟩)
  have HSL := hide hsl
  have HB := hide hB
  clear hsl hB
  go_loop [6] (fun q => ∃ k : Nat, k ≤ m ∧ q = .int .i64 k ∧ (∀ (j : Nat) (e : Nat × Nat × Nat), j < k → L[j]? = some e → (e.1 : Int) ≠ n)) (fun q => m - (intOf q).toNat)
  case atStart => exact ⟨0, by omega, rfl, fun j e h => by omega⟩
  case round =>
    obtain ⟨k, hk, rfl, hj⟩ := hrel
    have HJ := hide hj
    clear hj
    by_cases hlt : k < m
    · have hlt' : (k : Int) < (m : Int) := by omega
      obtain ⟨c, hc⟩ : ∃ c, L[k]? = some c := ⟨_, List.getElem?_eq_getElem (by rw [HM.out]; exact hlt)⟩
      obtain ⟨b, rfl, hcell⟩ : ∃ b, a = some ⟨b, 0, none⟩ ∧ w1.cell? ⟨b, k * 4, none⟩ = some (.int .i64 (c.1 : Int)) := by
        rcases HSL.out with h | ⟨b, ha, _, hh⟩
        · rw [h] at hc; simp at hc
        · exact ⟨b, ha, (hh k c hc).1⟩
      have HC := hide hc
      clear hc
      by_cases hle : (c.1 : Int) = n
      · have hle' : ((c.1 : Int) == n) = true := by simp [hle]
        have HLE := hide hle
        clear hle
        go_wp2
        go_ret
        exact ⟨ret_bool (Eq.symm (HR.out.2 (.inl ⟨c, List.mem_of_getElem? HC.out, HLE.out⟩))), HB.out⟩
      · have hle' : ((c.1 : Int) == n) = false := by simp [hle]
        have HLE := hide hle
        clear hle
        go_wp2
        go_round
        case rel =>
          refine ⟨k + 1, by omega, by go_num, fun j e h1 h2 => ?_⟩
          by_cases hjk : j < k
          · exact HJ.out j e hjk h2
          · have : j = k := by omega
            subst this
            rw [HC.out] at h2
            cases h2
            exact HLE.out
        case measure => simp [intOf]; omega
    · have hkm : k = m := by omega
      subst hkm
      go_wp2
      go_ret
      refine ⟨ret_bool ?_, HB.out⟩
      rw [Bool.eq_iff_iff, HR.out, beq_iff_eq]
      constructor
      · intro h; exact .inr h
      · rintro (⟨e, he, h⟩ | h)
        · obtain ⟨j, hj⟩ := List.getElem?_of_mem he
          exact absurd h (HJ.out j e (by have := (List.getElem?_eq_some_iff.1 hj).1; rw [HM.out] at this; exact this) hj)
        · exact h
end Go.Proofs.Ytihfnnhfpohakaa
