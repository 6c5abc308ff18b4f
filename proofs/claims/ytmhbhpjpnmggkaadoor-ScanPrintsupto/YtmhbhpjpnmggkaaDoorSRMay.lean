/- The document's side of package scan: which tokens may be. -/
import Derived.Test.YtmhbhpjpnmggkaaDoorSRNum
import Derived.Test.YtmhbhpjpnmggkaaDoorSPrnW
namespace Go.Proofs.YtmhbhpjpnmggkaaDoor
open Go.RowKit Go.Shelf
set_option linter.unusedVariables false

set_option maxRecDepth 100000 in
set_option maxHeartbeats 4000000 in
theorem rmay_1 (a : Int) (t : ByteArray) (n : Int) (w : World) (hs : t.size ≤ 140737488355328) :
    Calls Tryd.prog 32 #[.agg #[.int .i64 1, .int .i64 a, .string t, .int .i64 n]] w fun e w' => e = .returned (.bool (isRunL (bl t) && !(numK (bl t)).isSome && (n == 0))) ∧ Below w.heap.size w w' := by
  have hsI : (t.size : Int) ≤ 140737488355328 := by omega
  have hB0 : Below w.heap.size w (w.alloc (.cells #[.int .i64 1, .int .i64 a, .string t, .int .i64 n] 46)) := (Below.refl _ _).alloc (Nat.le_refl _) _
  have hc : (w.alloc (.cells #[.int .i64 1, .int .i64 a, .string t, .int .i64 n] 46)).heap[w.heap.size]? = some (.cells #[.int .i64 1, .int .i64 a, .string t, .int .i64 n] 46 (0, 0)) := heap_alloc_new w _
  have hlt0 : w.heap.size < (w.alloc (.cells #[.int .i64 1, .int .i64 a, .string t, .int .i64 n] 46)).heap.size := (Array.getElem?_eq_some_iff.1 hc).1
  have HB0 := hide hB0
  have HC := hide hc
  clear hB0 hc
  go_enter Tryd.func32, Tryd.ntmps32
  go_wp2_with (fail)
  go_loop [3] (fun i => ∃ k : Nat, i = .int .i64 (k : Int) ∧ k ≤ t.size ∧ skp runC (bl t) = k + skp runC ((bl t).drop k)) (fun i => t.size - (intOf i).toNat)
  case atStart => exact ⟨0, rfl, Nat.zero_le _, by simp⟩
  case round =>
    obtain ⟨k, rfl, hk, hsk⟩ := hrel
    by_cases hlt : k < t.size
    · have hltI : (k : Int) < (t.size : Int) := by omega
      have hlb : k < (bl t).length := by rw [bl_len]; exact hlt
      have hby : by' (bl t) k = (t[k]'hlt).toNat := by'_get t k hlt
      have kr := fun W => rrun_any (t[k]'hlt).toNat W (UInt8.toNat_lt _)
      cases hr : runC (by' (bl t) k) with
      | true =>
        have hst := skp_step hlb hr
        rw [hby] at hr
        rw [hr] at kr
        have HST := hide (show skp runC (bl t) = (k + 1) + skp runC ((bl t).drop (k + 1)) by rw [hsk, hst]; omega)
        have KR := hide kr
        clear hst hsk hby hr kr
        go_wp2_with (go_at_call 50; refine (KR.out _).mono ?_; rintro e x ⟨rfl, hx⟩; subst hx)
        go_round
        case rel => exact ⟨k + 1, by go_num, by omega, HST.out⟩
        case measure => simp [intOf]; omega
      | false =>
        have hst := skp_stop hlb hr
        rw [hby] at hr
        rw [hr] at kr
        have hf : isRunL (bl t) = false := by
          unfold isRunL
          rw [hsk, hst, decide_eq_false (show ¬ k + 0 = (bl t).length by rw [bl_len]; omega), Bool.and_false]
        have HF := hide hf
        have KR := hide kr
        clear hst hsk hby hr kr hf
        go_wp2_with (go_at_call 50; refine (KR.out _).mono ?_; rintro e x ⟨rfl, hx⟩; subst hx)
        go_ret
        exact ⟨by rw [HF.out]; rfl, HB0.out⟩
    · have hge : (t.size : Int) ≤ (k : Int) := by omega
      rw [List.drop_eq_nil_of_le (by rw [bl_len]; omega)] at hsk
      have hsk2 : skp runC (bl t) = t.size := by rw [hsk]; simp [skp]; omega
      have hf : isRunL (bl t) = decide ((0 : Int) < (t.size : Int)) := by
        unfold isRunL
        rw [hsk2, decide_eq_true (show t.size = (bl t).length from (bl_len t).symm), Bool.and_true]
        by_cases h0 : 0 < t.size
        · rw [decide_eq_true h0, decide_eq_true (by omega)]
        · rw [decide_eq_false h0, decide_eq_false (by omega)]
      have kn := fun W => rnumber_any t W hs
      obtain ⟨I, hI⟩ : ∃ I, (numK (bl t)).isSome = I := ⟨_, rfl⟩
      rw [hI] at kn
      have HI := hide hI
      clear hI
      have KN := hide kn
      have HF := hide hf
      clear kn hsk hsk2 hf
      have hn2 := fun (x : World) (hbx : Below (w.alloc (.cells #[.int .i64 1, .int .i64 a, .string t, .int .i64 n] 46)).heap.size (w.alloc (.cells #[.int .i64 1, .int .i64 a, .string t, .int .i64 n] 46)) x) => four_at ((hbx.block _ hlt0).trans HC.out)
      have HN2 := hide hn2
      clear hn2
      by_cases h0 : (0 : Int) < (t.size : Int)
      · have hd : decide ((0 : Int) < (t.size : Int)) = true := decide_eq_true h0
        cases I
        all_goals
          go_wp2_with (go_at_call 51; refine (KN.out _).mono ?_; rintro e x ⟨n', rfl, hn', hbx⟩; obtain ⟨⟨q0, q1⟩, q2, q3⟩ := HN2.out x hbx)
          go_ret
          exact ⟨by rw [HF.out, hd, HI.out]; simp, bseq HB0.out hbx⟩
      · have hd : decide ((0 : Int) < (t.size : Int)) = false := decide_eq_false h0
        go_wp2_with (go_at_call 51; refine (KN.out _).mono ?_; rintro e x ⟨n', rfl, hn', hbx⟩; obtain ⟨⟨q0, q1⟩, q2, q3⟩ := HN2.out x hbx)
        go_ret
        exact ⟨by rw [HF.out, hd, HI.out]; simp, bseq HB0.out hbx⟩
set_option maxRecDepth 100000 in
set_option maxHeartbeats 4000000 in
theorem rmay_2 (a : Int) (t : ByteArray) (n : Int) (w : World) : Calls Tryd.prog 32 #[.agg #[.int .i64 2, .int .i64 a, .string t, .int .i64 n]] w fun e w' => e = .returned (.bool (decide (bl t = []) && decide (0 ≤ n))) ∧ Below w.heap.size w w' := by
  have e1 : t.toList.isEmpty = decide (bl t = []) := by
    rw [ByteArray.toList_eq]
    unfold bl
    cases t.data.toList <;> simp
  cases hd : decide (bl t = []) with
  | true =>
    rw [hd] at e1
    go_enter Tryd.func32, Tryd.ntmps32
    go_wp2_with (fail)
    try go_ret
    exact ⟨rfl, by first | exact Below.refl _ _ | exact (Below.refl _ _).alloc (Nat.le_refl _) _⟩
  | false =>
    rw [hd] at e1
    go_enter Tryd.func32, Tryd.ntmps32
    go_wp2_with (fail)
    try go_ret
    exact ⟨rfl, by first | exact Below.refl _ _ | exact (Below.refl _ _).alloc (Nat.le_refl _) _⟩
set_option maxRecDepth 100000 in
set_option maxHeartbeats 4000000 in
theorem rmay_3 (a : Int) (t : ByteArray) (n : Int) (w : World) : Calls Tryd.prog 32 #[.agg #[.int .i64 3, .int .i64 a, .string t, .int .i64 n]] w fun e w' => e = .returned (.bool (n == 0)) ∧ Below w.heap.size w w' := by
  go_enter Tryd.func32, Tryd.ntmps32
  go_wp2_with (fail)
  try go_ret
  exact ⟨rfl, by first | exact Below.refl _ _ | exact (Below.refl _ _).alloc (Nat.le_refl _) _⟩
set_option maxRecDepth 100000 in
set_option maxHeartbeats 4000000 in
theorem rmay_else (k a : Int) (t : ByteArray) (n : Int) (w : World) (h1 : (k == 1) = false) (h2 : (k == 2) = false) (h3 : (k == 3) = false) : Calls Tryd.prog 32 #[.agg #[.int .i64 k, .int .i64 a, .string t, .int .i64 n]] w fun e w' => e = .returned (.bool false) ∧ Below w.heap.size w w' := by
  go_enter Tryd.func32, Tryd.ntmps32
  go_wp2_with (fail)
  try go_ret
  exact ⟨rfl, by first | exact Below.refl _ _ | exact (Below.refl _ _).alloc (Nat.le_refl _) _⟩
theorem rmay_any (k a : Int) (t : ByteArray) (n : Int) (w : World) (hs : t.size ≤ 140737488355328) :
    Calls Tryd.prog 32 #[.agg #[.int .i64 k, .int .i64 a, .string t, .int .i64 n]] w fun e w' => e = .returned (.bool (mayI (k, a, t, n))) ∧ Below w.heap.size w w' := by
  unfold mayI
  simp only
  by_cases h1 : k = 1
  · subst h1; exact rmay_1 a t n w hs
  rw [if_neg h1]
  by_cases h2 : k = 2
  · subst h2; exact rmay_2 a t n w
  rw [if_neg h2]
  by_cases h3 : k = 3
  · subst h3; exact rmay_3 a t n w
  rw [if_neg h3]
  exact rmay_else k a t n w (beq_eq_false_iff_ne.2 h1) (beq_eq_false_iff_ne.2 h2) (beq_eq_false_iff_ne.2 h3)
end Go.Proofs.YtmhbhpjpnmggkaaDoor
