/- Package scan: printed and Print. -/
import Derived.Test.YtaljllbfedfpoaaGreatDoorSMay
import Derived.Test.YtaljllbfedfpoaaGreatDoorSQuoW
import Derived.Lib.ItoaLen
namespace Go.Proofs.YtaljllbfedfpoaaGreatDoor
open Go.RowKit Go.Shelf
set_option linter.unusedVariables false

/-- A token as it may come in: kind, place, text, number. -/
abbrev TkI := Int × Int × ByteArray × Int
/-- May some line have it? -/
def mayI (x : TkI) : Bool := if x.1 = 1 then (isRunL (bl x.2.2.1) && !(numK (bl x.2.2.1)).isSome && (x.2.2.2 == 0)) else if x.1 = 2 then (decide (bl x.2.2.1 = []) && decide (0 ≤ x.2.2.2)) else if x.1 = 3 then (x.2.2.2 == 0) else false
theorem mayBe_any (k a : Int) (t : ByteArray) (n : Int) (w : World) (hs : t.size ≤ 140737488355328) (hL : LaidW w) :
    Calls Tryz.prog 49 #[.agg #[.int .i64 k, .int .i64 a, .string t, .int .i64 n]] w fun e w' => e = .returned (.bool (mayI (k, a, t, n))) ∧ Below w.heap.size w w' := by
  unfold mayI
  simp only
  by_cases h1 : k = 1
  · subst h1; exact mayBe_1 a t n w hs hL
  rw [if_neg h1]
  by_cases h2 : k = 2
  · subst h2; exact mayBe_2 a t n w
  rw [if_neg h2]
  by_cases h3 : k = 3
  · subst h3; exact mayBe_3 a t n w
  rw [if_neg h3]
  exact mayBe_else k a t n w (beq_eq_false_iff_ne.2 h1) (beq_eq_false_iff_ne.2 h2) (beq_eq_false_iff_ne.2 h3)
/-- How a token stands in a line. -/
def pT (x : TkI) : List UInt8 := if x.1 = 2 then Lib.itoa x.2.2.2 else if x.1 = 3 then 34 :: (qo (bl x.2.2.1) ++ [34]) else bl x.2.2.1
set_option maxRecDepth 100000 in
set_option maxHeartbeats 4000000 in
theorem printed_2 (a : Int) (t : ByteArray) (n : Int) (w : World) (hL : LaidW w) (h0 : -9223372036854775808 ≤ n) (h1 : n ≤ 9223372036854775807) :
    Calls Tryz.prog 50 #[.agg #[.int .i64 2, .int .i64 a, .string t, .int .i64 n]] w fun e w' => e = .returned (.string ⟨(Lib.itoa n).toArray⟩) ∧ Below w.heap.size w w' := by
  have hb0 : Below w.heap.size w (w.alloc (.cells #[.int .i64 2, .int .i64 a, .string t, .int .i64 n] 28)) := (Below.refl _ _).alloc (Nat.le_refl _) _
  have KI := hide (itoa_any n h0 h1 _ (hL.below hb0))
  clear hL
  go_enter Tryz.func50, Tryz.ntmps50
  go_wp2_with (go_at_call 55; refine (KI.out).mono ?_; rintro e x ⟨rfl, hx⟩)
  go_ret
  exact ⟨rfl, bseq hb0 hx⟩
set_option maxRecDepth 100000 in
set_option maxHeartbeats 4000000 in
theorem printed_3 (a : Int) (t : ByteArray) (n : Int) (w : World) (hZ : LaidZ w) (ht : t.size ≤ 17592186044416) :
    Calls Tryz.prog 50 #[.agg #[.int .i64 3, .int .i64 a, .string t, .int .i64 n]] w fun e w' => e = .returned (.string ⟨(34 :: (qo (bl t) ++ [34])).toArray⟩) ∧ Below w.heap.size w w' := by
  have hb0 : Below w.heap.size w (w.alloc (.cells #[.int .i64 3, .int .i64 a, .string t, .int .i64 n] 28)) := (Below.refl _ _).alloc (Nat.le_refl _) _
  have KI := hide (quote_any t _ ht (hZ.below hb0))
  clear hZ
  go_enter Tryz.func50, Tryz.ntmps50
  go_wp2_with (go_at_call 18; refine (KI.out).mono ?_; rintro e x ⟨rfl, hx⟩)
  go_ret
  exact ⟨rfl, bseq hb0 hx⟩
set_option maxRecDepth 100000 in
set_option maxHeartbeats 4000000 in
theorem printed_1 (k a : Int) (t : ByteArray) (n : Int) (w : World) (h2 : (k == 2) = false) (h3 : (k == 3) = false) :
    Calls Tryz.prog 50 #[.agg #[.int .i64 k, .int .i64 a, .string t, .int .i64 n]] w fun e w' => e = .returned (.string t) ∧ Below w.heap.size w w' := by
  have hb0 : Below w.heap.size w (w.alloc (.cells #[.int .i64 k, .int .i64 a, .string t, .int .i64 n] 28)) := (Below.refl _ _).alloc (Nat.le_refl _) _
  go_enter Tryz.func50, Tryz.ntmps50
  go_wp2_with (fail)
  go_ret
  exact ⟨rfl, hb0⟩
theorem bl_back (t : ByteArray) : (⟨(bl t).toArray⟩ : ByteArray) = t := by unfold bl; simp
theorem printed_any (k a : Int) (t : ByteArray) (n : Int) (w : World) (hL : LaidW w) (hZ : LaidZ w) (ht : t.size ≤ 17592186044416) (h0 : -9223372036854775808 ≤ n) (h1 : n ≤ 9223372036854775807) :
    Calls Tryz.prog 50 #[.agg #[.int .i64 k, .int .i64 a, .string t, .int .i64 n]] w fun e w' => e = .returned (.string ⟨(pT (k, a, t, n)).toArray⟩) ∧ Below w.heap.size w w' := by
  unfold pT
  simp only
  by_cases h2 : k = 2
  · subst h2; exact printed_2 a t n w hL h0 h1
  rw [if_neg h2]
  by_cases h3 : k = 3
  · subst h3; exact printed_3 a t n w hZ ht
  rw [if_neg h3, bl_back]
  exact printed_1 k a t n w (beq_eq_false_iff_ne.2 h2) (beq_eq_false_iff_ne.2 h3)
/-- Tokens, joined by blanks. -/
def prJ : List TkI → List UInt8
  | [] => []
  | x :: xs => pT x ++ xs.flatMap (fun y => 32 :: pT y)
theorem prJ_snoc (xs : List TkI) (x : TkI) : prJ (xs ++ [x]) = prJ xs ++ (if xs = [] then [] else [32]) ++ pT x := by
  cases xs with
  | nil => simp [prJ]
  | cons y ys => simp [prJ, List.flatMap_append]
theorem prJ_take {xs : List TkI} {k : Nat} (h : k < xs.length) : prJ (xs.take (k + 1)) = prJ (xs.take k) ++ (if k = 0 then [] else [32]) ++ pT xs[k] := by
  rw [List.take_succ_eq_append_getElem h, prJ_snoc]
  congr 2
  by_cases hk : k = 0
  · subst hk; simp
  · rw [if_neg hk, if_neg (fun e => by have := congrArg List.length e; rw [List.length_take, List.length_nil] at this; omega)]
theorem prJ_mono {xs : List TkI} {k : Nat} (h : k ≤ xs.length) : (prJ (xs.take k)).length ≤ (prJ xs).length := by
  obtain ⟨m, hm⟩ : ∃ m, xs.length = k + m := ⟨xs.length - k, by omega⟩
  have key : ∀ m k, k + m = xs.length → (prJ (xs.take k)).length ≤ (prJ xs).length := by
    intro m
    induction m with
    | zero => intro k hk; rw [List.take_of_length_le (by omega)]; exact Nat.le_refl _
    | succ m ih =>
      intro k hk
      have h1 := ih (k + 1) (by omega)
      rw [prJ_take (by omega)] at h1
      simp only [List.length_append] at h1
      omega
  exact key m k hm.symm
theorem pT_len (x : TkI) (ht : x.2.2.1.size ≤ 17592186044416) (h0 : -9223372036854775808 ≤ x.2.2.2) (h1 : x.2.2.2 ≤ 9223372036854775807) : (pT x).length ≤ 70368744177687 := by
  unfold pT
  split
  · have := Lib.itoa_length_le _ h0 h1
    omega
  · split
    · have := qo_len (bl x.2.2.1)
      rw [bl_len] at this
      simp only [List.length_cons, List.length_append, List.length_nil]
      omega
    · rw [bl_len]; omega
/-- What a row of tokens holds. -/
def SlK (W : World) (a : Option Addr) (xs : List TkI) : Prop := xs = [] ∨ ∃ b off, a = some ⟨b, off, none⟩ ∧ b < W.heap.size ∧ ∀ (i : Nat) (x : TkI), xs[i]? = some x →
  W.cell? ⟨b, off + i * 4, none⟩ = some (.int .i64 x.1) ∧ W.cell? ⟨b, off + i * 4 + 1, none⟩ = some (.int .i64 x.2.1) ∧ W.cell? ⟨b, off + i * 4 + 2, none⟩ = some (.string x.2.2.1) ∧ W.cell? ⟨b, off + i * 4 + 3, none⟩ = some (.int .i64 x.2.2.2)
theorem cell_belowS {W W' : World} {p : Addr} {v : Value} (h : W.cell? p = some v) (hB : Below W.heap.size W W') : W'.cell? p = some v := (hB.cell (World.block_lt_of_cell? _ _ h)).trans h
theorem SlK.below {W W' : World} {a : Option Addr} {xs : List TkI} (h : SlK W a xs) (hB : Below W.heap.size W W') : SlK W' a xs := by
  rcases h with h | ⟨b, off, ha, hb, hc⟩
  · exact .inl h
  · refine .inr ⟨b, off, ha, Nat.lt_of_lt_of_le hb hB.size, fun i x hx => ?_⟩
    obtain ⟨c0, c1, c2, c3⟩ := hc i x hx
    exact ⟨cell_belowS c0 hB, cell_belowS c1 hB, cell_belowS c2 hB, cell_belowS c3 hB⟩
theorem bwriteByteK (B b : Nat) (l : List UInt8) (c : UInt8) (w : World) (h : Bd8 B b l w) (hlen : l.length + 1 ≤ 140737488355328) (hBw : B ≤ w.heap.size) :
    Calls Tryz.prog 39 #[.pointer (some ⟨b, 0, none⟩), .int .u8 (c.toNat : Int)] w fun e w' => e = .returned (.nilIface) ∧ Bd8 B b (l ++ [c]) w' ∧ Below B w w' ∧ Lib.OthersKept 5 (some b) w w' := by
  refine (Any.Builder_WriteByte_k lay_Lays_167 extraA_167 B b _ _ w h (by simpa [Lib.byteCells] using hlen) hBw).mono ?_
  rintro e w' ⟨rfl, h1, h2, h3⟩
  refine ⟨rfl, ?_, h2, h3⟩
  have e1 : Lib.byteCells (l ++ [c]) = Lib.byteCells l ++ [.int .u8 (c.toNat : Int)] := by rw [Lib.byteCells_append]; rfl
  unfold Bd8
  rw [e1]
  exact .inr h1
/-- What Print answers. -/
def prV (xs : List TkI) : List UInt8 × Int := if xs.all mayI = true then (if 16384 < (prJ xs).length then ([], 4) else (prJ xs, 0)) else ([], 70)
end Go.Proofs.YtaljllbfedfpoaaGreatDoor
