/- What tally.wide, counts, edges and Check answer, of every tally. -/
import Derived.Test.YtojbclifafmllaaTOf
import Derived.Deep.RegionHeld3
import Derived.BigRegion
import Derived.Deep.DeepCutAuto
namespace Go.Proofs.Ytojbclifafmllaa
open Go.RowKit
set_option linter.unusedVariables false

theorem wide_any (b c l : Int) (h t : ByteArray) (w : World) (h0 : 0 ≤ c) (hb : b ≤ 9223372036854775807) :
    Calls Try.prog 40 #[(.agg #[.int .i64 b, .int .i64 c, .int .i64 l, .string h, .string t])] w fun e w' => e = .returned (.bool (decide (b ≤ 4 * c))) ∧ Below w.heap.size w w' := by
  by_cases hc : 2305843009213693951 < c
  · rw [decide_eq_true (by omega)]
    go_enter Try.func40, Try.ntmps40
    go_wp2
    go_ret
    exact ⟨rfl, (Below.refl _ w).alloc (Nat.le_refl _) _⟩
  · have hc' : c ≤ 2305843009213693951 := by omega
    clear hc
    have hd' : decide (2305843009213693951 < c) = false := decide_eq_false (by omega)
    go_enter Try.func40, Try.ntmps40
    go_wp2
    go_ret
    refine ⟨ret_bool ?_, (Below.refl _ w).alloc (Nat.le_refl _) _⟩
    first | rfl | (show (decide (2305843009213693951 < c) || decide (b ≤ 4 * c)) = _; rw [hd', Bool.false_or])

def cntB (b c l : Int) : Bool := decide (0 ≤ l ∧ l ≤ c ∧ c ≤ b ∧ b ≤ 4 * c)
theorem counts_any (b c l : Int) (h t : ByteArray) (w : World) (hb : b ≤ 9223372036854775807) :
    Calls Try.prog 28 #[(.agg #[.int .i64 b, .int .i64 c, .int .i64 l, .string h, .string t])] w fun e w' => e = .returned (.bool (cntB b c l)) ∧ Below w.heap.size w w' := by
  have hw := fun w hc => wide_any b c l h t w hc hb
  have HW := hide hw
  clear hw
  by_cases h1 : 0 ≤ l
  · by_cases h2 : l ≤ c
    · by_cases h3 : c ≤ b
      · have hz : cntB b c l = decide (b ≤ 4 * c) := by unfold cntB; simp [h1, h2, h3]
        rw [hz]
        clear hz
        have HW' := hide (fun w => HW.out w (by omega))
        clear HW
        generalize decide (b ≤ 4 * c) = g at *
        go_enter Try.func28, Try.ntmps28
        go_wp2_with (go_at_call 40; refine (HW'.out _).mono ?_; rintro e w1 ⟨rfl, hB⟩)
        all_goals
          go_ret
          exact ⟨by first | rfl | simp [*], bseq ((Below.refl _ w).alloc (Nat.le_refl _) _) hB⟩
      · have hz : cntB b c l = false := by unfold cntB; simp [h3]
        rw [hz]
        clear hz HW
        go_enter Try.func28, Try.ntmps28
        go_wp2_with (fail)
        go_ret
        exact ⟨rfl, (Below.refl _ w).alloc (Nat.le_refl _) _⟩
    · have hz : cntB b c l = false := by unfold cntB; simp [h2]
      rw [hz]
      clear hz HW
      go_enter Try.func28, Try.ntmps28
      go_wp2_with (fail)
      go_ret
      exact ⟨rfl, (Below.refl _ w).alloc (Nat.le_refl _) _⟩
  · have hz : cntB b c l = false := by unfold cntB; simp [h1]
    rw [hz]
    clear hz HW
    go_enter Try.func28, Try.ntmps28
    go_wp2_with (fail)
    go_ret
    exact ⟨rfl, (Below.refl _ w).alloc (Nat.le_refl _) _⟩

theorem eqB (a b : ByteArray) : (a.toList == b.toList) = decide (a = b) := by
  rw [Bool.eq_iff_iff, beq_iff_eq, decide_eq_true_eq, ByteArray.toList_eq, ByteArray.toList_eq]
  exact ⟨fun h => bl_inj h, fun h => by rw [h]⟩
theorem Try.noGuard24 : Try.prog.eqGuardType Try.prog.depth 24 = false := by kernel_rfl
theorem Try.noHeld24 : Try.prog.stoodInHeld 24 = false := by kernel_rfl
theorem Try.fields24 : Try.prog.underlying 24 = some (.struct (Try.prog.fieldsOf 24)) := by kernel_rfl
/-- The same tally? -/
def sameT (b c l : Int) (h t : ByteArray) (b' c' l' : Int) (h' t' : ByteArray) : Bool := decide (b = b' ∧ c = c' ∧ l = l' ∧ h = h' ∧ t = t')
theorem eql_ty (b c l : Int) (h t : ByteArray) (b' c' l' : Int) (h' t' : ByteArray) (w : World) :
    (Op.equalIn 10000 24 (.agg #[.int .i64 b, .int .i64 c, .int .i64 l, .string h, .string t]) (.agg #[.int .i64 b', .int .i64 c', .int .i64 l', .string h', .string t'])).run Try.prog w = .ok (sameT b c l h t b' c' l' h' t') w := by
  rw [run_equalIn_agg w 9999 24 _ _ Try.fields24 Try.noHeld24]
  have u3 := Try.underlying3
  have u9 := Try.underlying9
  have a3 := Try.isAgg3
  have a9 := Try.isAgg9
  unfold Program.fieldsOf
  rw [Try.underlying24]
  unfold sameT
  by_cases h1 : b = b'
  · by_cases h2 : c = c'
    · by_cases h3 : l = l'
      · by_cases h4 : h = h'
        · by_cases h5 : t = t'
          · simp [Op.eqFields, part, u3, u9, a3, a9, go_sem, h1, h2, h3, h4, h5]
          · have h5' : (t.toList == t'.toList) = false := by rw [eqB]; exact decide_eq_false h5
            simp [Op.eqFields, part, u3, u9, a3, a9, go_sem, h1, h2, h3, h4, h5, h5']
        · have h4' : (h.toList == h'.toList) = false := by rw [eqB]; exact decide_eq_false h4
          simp [Op.eqFields, part, u3, u9, a3, a9, go_sem, h1, h2, h3, h4, h4']
      · simp [Op.eqFields, part, u3, u9, a3, a9, go_sem, h1, h2, h3]
    · simp [Op.eqFields, part, u3, u9, a3, a9, go_sem, h1, h2]
  · simp [Op.eqFields, part, u3, u9, a3, a9, go_sem, h1]
/-- The text that a tally of at most six bytes is of. -/
def txt (b : Int) (h t : ByteArray) : ByteArray := h ++ t.extract (2 * min 3 b - b).toNat t.size
/-- Is it the tally of that text? -/
def isOf (b c l : Int) (h t : ByteArray) (s : ByteArray) : Bool := decide (b = s.size ∧ c = chn (bl s) ∧ l = lin (bl s) ∧ h = hd s ∧ t = tl s)

/-- The five cells of a tally's variable hold it: in the world in which it was laid; behind what wrote only what is newer. -/
theorem box_new (w : World) (b c l : Int) (h t : ByteArray) :
    (w.alloc (.cells #[.int .i64 b, .int .i64 c, .int .i64 l, .string h, .string t] 24)).drew.cell? ⟨w.heap.size, 0, none⟩ = some (.int .i64 b) ∧ (w.alloc (.cells #[.int .i64 b, .int .i64 c, .int .i64 l, .string h, .string t] 24)).drew.cell? ⟨w.heap.size, 1, none⟩ = some (.int .i64 c) ∧
    (w.alloc (.cells #[.int .i64 b, .int .i64 c, .int .i64 l, .string h, .string t] 24)).drew.cell? ⟨w.heap.size, 2, none⟩ = some (.int .i64 l) ∧ (w.alloc (.cells #[.int .i64 b, .int .i64 c, .int .i64 l, .string h, .string t] 24)).drew.cell? ⟨w.heap.size, 3, none⟩ = some (.string h) ∧
    (w.alloc (.cells #[.int .i64 b, .int .i64 c, .int .i64 l, .string h, .string t] 24)).drew.cell? ⟨w.heap.size, 4, none⟩ = some (.string t) := by
  have h0 : (w.alloc (.cells #[.int .i64 b, .int .i64 c, .int .i64 l, .string h, .string t] 24)).drew.heap[w.heap.size]? = some (.cells #[.int .i64 b, .int .i64 c, .int .i64 l, .string h, .string t] 24 (0, 0)) := heap_alloc_new w _
  exact ⟨cell_of h0 0 _ rfl, cell_of h0 1 _ rfl, cell_of h0 2 _ rfl, cell_of h0 3 _ rfl, cell_of h0 4 _ rfl⟩
theorem box_at {W : World} {B : Nat} {b c l : Int} {h t : ByteArray} {ty : TypeId} (h0 : W.heap[B]? = some (.cells #[.int .i64 b, .int .i64 c, .int .i64 l, .string h, .string t] ty (0, 0))) :
    W.cell? ⟨B, 0, none⟩ = some (.int .i64 b) ∧ W.cell? ⟨B, 1, none⟩ = some (.int .i64 c) ∧ W.cell? ⟨B, 2, none⟩ = some (.int .i64 l) ∧ W.cell? ⟨B, 3, none⟩ = some (.string h) ∧ W.cell? ⟨B, 4, none⟩ = some (.string t) :=
  ⟨cell_of h0 0 _ rfl, cell_of h0 1 _ rfl, cell_of h0 2 _ rfl, cell_of h0 3 _ rfl, cell_of h0 4 _ rfl⟩
theorem cell_below {W W' : World} {a : Addr} {v : Value} (h : W.cell? a = some v) (hB : Below W.heap.size W W') (ha : a.block < W.heap.size) : W'.cell? a = some v := by
  unfold World.cell? at *
  rw [hB.block a.block ha]
  exact h
theorem box_below {W W' : World} {B : Nat} {v0 v1 v2 v3 v4 : Value} (h : W.cell? ⟨B, 0, none⟩ = some v0 ∧ W.cell? ⟨B, 1, none⟩ = some v1 ∧ W.cell? ⟨B, 2, none⟩ = some v2 ∧ W.cell? ⟨B, 3, none⟩ = some v3 ∧ W.cell? ⟨B, 4, none⟩ = some v4) (hB : Below W.heap.size W W') (ha : B < W.heap.size) :
    W'.cell? ⟨B, 0, none⟩ = some v0 ∧ W'.cell? ⟨B, 1, none⟩ = some v1 ∧ W'.cell? ⟨B, 2, none⟩ = some v2 ∧ W'.cell? ⟨B, 3, none⟩ = some v3 ∧ W'.cell? ⟨B, 4, none⟩ = some v4 :=
  ⟨cell_below h.1 hB ha, cell_below h.2.1 hB ha, cell_below h.2.2.1 hB ha, cell_below h.2.2.2.1 hB ha, cell_below h.2.2.2.2 hB ha⟩

theorem add_str {P : Program} (a b : ByteArray) (h : a.size + b.size ≤ 9223372036854775807) (ty : TypeId) (w : World) : (binOp .add ty (.string a) (.string b)).run P w = .ok (.string (a ++ b)) w := by
  simp [binOp, run_string_add_sum w a b h]

set_option maxRecDepth 100000 in
set_option maxHeartbeats 4000000 in
theorem edges_of (n k j m : Nat) (c l : Int) (h t : ByteArray) (w : World) (h6 : (n : Int) ≤ 6) (hmin : min (3 : Int) (n : Int) = (k : Int)) (hm : 2 * (k : Int) = (m : Int)) (hj : (m : Int) - (n : Int) = (j : Int)) (hh : h.size = k) (ht : t.size = k) :
    Calls Try.prog 29 #[(.agg #[.int .i64 (n : Int), .int .i64 c, .int .i64 l, .string h, .string t])] w fun e w' => e = .returned (.bool (isOf n c l h t (h ++ t.extract j k))) ∧ Below w.heap.size w w' := by
  have hk3 : (k : Int) ≤ 3 := by omega
  have hjk : (j : Int) ≤ (k : Int) := by omega
  have hs : (h ++ t.extract j k).size ≤ 9223372036854775807 := by rw [ByteArray.size_append, ByteArray.size_extract]; omega
  have hsz : ((h ++ t.extract j k).size : Int) = (n : Int) := by rw [ByteArray.size_append, ByteArray.size_extract]; omega
  have hadd := fun ty w => add_str (P := Try.prog) h (t.extract j k) (by rw [ByteArray.size_extract]; omega) ty w
  have hadd2 := fun w => run_string_add_sum (P := Try.prog) w h (t.extract j k) (by rw [ByteArray.size_extract]; omega)
  have hadd3 : h.size + (t.extract j k).size ≤ 9223372036854775807 := by rw [ByteArray.size_extract]; omega
  have hadd4 : k + (k - j) ≤ 9223372036854775807 := by omega
  have hw1 : IntKind.i64.wrap (m : Int) = (m : Int) := by rw [IntKind.wrap_i64]; omega
  have hw2 : IntKind.i64.wrap (j : Int) = (j : Int) := by rw [IntKind.wrap_i64]; omega
  have ko := fun w => tof_any (h ++ t.extract j k) w hs
  unfold isOf
  rw [hsz] at ko ⊢
  unfold tyC at ko
  generalize ((chn (bl (h ++ t.extract j k)) : Nat) : Int) = C at *
  generalize ((lin (bl (h ++ t.extract j k)) : Nat) : Int) = L at *
  generalize hd (h ++ t.extract j k) = H at *
  generalize tl (h ++ t.extract j k) = T at *
  show Calls Try.prog 29 #[(.agg #[.int .i64 (n : Int), .int .i64 c, .int .i64 l, .string h, .string t])] w fun e w' => e = .returned (.bool (sameT n c l h t n C L H T)) ∧ Below w.heap.size w w'
  have KO := hide ko
  have HEQ := hide (fun w => eql_ty n c l h t n C L H T w)
  clear hs hsz ko
  generalize sameT n c l h t n C L H T = ans at *
  go_enter Try.func29, Try.ntmps29
  go_wp2_with (fail)
  have hg := Try.noGuard24
  have heq := HEQ.out
  go_region_held3 (fun w' => w'.cell? ⟨w.heap.size, 0, none⟩ = some (.int .i64 n) ∧ w'.cell? ⟨w.heap.size, 1, none⟩ = some (.int .i64 c) ∧ w'.cell? ⟨w.heap.size, 2, none⟩ = some (.int .i64 l) ∧ w'.cell? ⟨w.heap.size, 3, none⟩ = some (.string h) ∧ w'.cell? ⟨w.heap.size, 4, none⟩ = some (.string t)) (first | exact box_new w _ _ _ _ _ | exact box_below (box_new w _ _ _ _ _) hB (by simp)) (first | (go_at_call 6; refine (KO.out _).mono ?_; rintro e w1 ⟨rfl, hB⟩))
  go_wp2
  go_ret
  exact ⟨rfl, bseq (((Below.refl _ w).alloc (Nat.le_refl _) _).drew) hB⟩

theorem edges_many (b c l : Int) (h t : ByteArray) (w : World) (h6 : 6 < b) (hh : h.size = 3) (ht : t.size = 3) :
    Calls Try.prog 29 #[(.agg #[.int .i64 b, .int .i64 c, .int .i64 l, .string h, .string t])] w fun e w' => e = .returned (.bool true) ∧ Below w.heap.size w w' := by
  have hmin : min (3 : Int) b = 3 := by omega
  go_enter Try.func29, Try.ntmps29
  go_wp2_with (fail)
  go_ret
  exact ⟨rfl, (Below.refl _ w).alloc (Nat.le_refl _) _⟩

theorem edges_no (b c l : Int) (h t : ByteArray) (w : World) (k : Int) (hmin : min (3 : Int) b = k) (hh : ¬ ((h.size : Int) = k ∧ (t.size : Int) = k)) :
    Calls Try.prog 29 #[(.agg #[.int .i64 b, .int .i64 c, .int .i64 l, .string h, .string t])] w fun e w' => e = .returned (.bool false) ∧ Below w.heap.size w w' := by
  by_cases h1 : (h.size : Int) = k
  · have h2 : ((t.size : Int) != k) = true := by simp; exact fun e => hh ⟨h1, e⟩
    have h1' : ((h.size : Int) != k) = false := by simp [h1]
    clear hh h1
    go_enter Try.func29, Try.ntmps29
    go_wp2_with (fail)
    go_ret
    exact ⟨rfl, (Below.refl _ w).alloc (Nat.le_refl _) _⟩
  · have h1' : ((h.size : Int) != k) = true := by simp [h1]
    clear hh h1
    go_enter Try.func29, Try.ntmps29
    go_wp2_with (fail)
    go_ret
    exact ⟨rfl, (Below.refl _ w).alloc (Nat.le_refl _) _⟩
end Go.Proofs.Ytojbclifafmllaa
