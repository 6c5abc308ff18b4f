/- What width, bits.Take and bits.Put answer, at each width: the bytes of a number, the lowest first, and back. -/
import Derived.Test.YtheefdplbmneeaaBase
import Derived.Laws.BitsAllLaws
namespace Go.Proofs.Ytheefdplbmneeaa
open Go.RowKit
set_option linter.unusedVariables false

/-- The number whose bytes these are, the lowest first. -/
def leV : List Nat → Nat
  | [] => 0
  | x :: t => x + 256 * leV t

/-- So many bytes of a number, the lowest first. -/
def leB : Nat → Nat → List Nat
  | 0, _ => []
  | n + 1, v => v % 256 :: leB n (v / 256)

theorem leB_length (n v : Nat) : (leB n v).length = n := by
  induction n generalizing v with
  | zero => rfl
  | succ n ih => simp [leB, ih]
theorem leB_lt (n v : Nat) : ∀ x ∈ leB n v, x < 256 := by
  induction n generalizing v with
  | zero => simp [leB]
  | succ n ih =>
    intro x hx
    rcases List.mem_cons.1 hx with rfl | h
    · omega
    · exact ih _ x h
theorem leB_get (n v k : Nat) (h : k < n) : (leB n v)[k]? = some (v / 256 ^ k % 256) := by
  induction n generalizing v k with
  | zero => omega
  | succ n ih =>
    cases k with
    | zero => simp [leB]
    | succ k =>
      simp only [leB, List.getElem?_cons_succ]
      rw [ih _ _ (by omega), Nat.div_div_eq_div_mul, Nat.pow_succ, Nat.mul_comm]
theorem leV_leB (n v : Nat) : leV (leB n v) = v % 256 ^ n := by
  induction n generalizing v with
  | zero => simp [leB, leV, Nat.mod_one]
  | succ n ih =>
    simp only [leB, leV, ih]
    rw [Nat.pow_succ, Nat.mul_comm (256 ^ n) 256, Nat.mod_mul]

theorem leV_lt (l : List Nat) (h : ∀ x ∈ l, x < 256) : leV l < 256 ^ l.length := by
  induction l with
  | nil => simp [leV]
  | cons x t ih =>
    have h1 := ih (fun y hy => h y (by simp [hy]))
    have h2 := h x (by simp)
    simp only [leV, List.length_cons, Nat.pow_succ]
    omega

theorem leV_step (bs : List Nat) (q k x : Nat) (h : bs[q]? = some x) : leV ((bs.drop q).take (k + 1)) = leV ((bs.drop (q + 1)).take k) * 256 + x := by
  obtain ⟨hq, rfl⟩ := List.getElem?_eq_some_iff.1 h
  rw [List.drop_eq_getElem_cons hq, List.take_succ_cons]
  simp only [leV]
  omega

theorem or_eq (V x : Nat) (hV : V < 72057594037927936) (hx : x < 256) : bits BinOp.or IntKind.u64 (IntKind.u64.wrap ((V : Int) * 256)) (x : Int) = ((V * 256 + x : Nat) : Int) := by
  have e1 : IntKind.u64.wrap ((V : Int) * 256) = ((V * 256 : Nat) : Int) := by rw [IntKind.wrap_u64]; omega
  rw [e1, u64_or_nat (V * 256) x (by omega) (by omega)]
  have := Nat.two_pow_add_eq_or_of_lt (i := 8) (b := x) (by omega) V
  have e2 : V * 256 = 2 ^ 8 * V := by omega
  rw [e2, ← this]

theorem pow_bound (V k n : Nat) (h : V < 256 ^ k) (hk : k < n) (hn : n ≤ 8) : V < 72057594037927936 :=
  Nat.lt_of_lt_of_le h (Nat.pow_le_pow_right (by omega : 0 < 256) (by omega : k ≤ 7))

theorem int_congr' {k : IntKind} {a b : Int} (h : a = b) : Value.int k a = Value.int k b := by rw [h]
theorem ret_two {k j : IntKind} {a b c : Int} (h : a = b) : Ending.returned (.tuple #[.int k a, .int j c]) = .returned (.tuple #[.int k b, .int j c]) := by rw [h]

/-- The bytes, then so many of the number's, then zeros. -/
def lay (bs l : List Nat) (k : Nat) : List Nat := bs ++ (l.take k ++ List.replicate (l.length - k) 0)
theorem lay_length (bs l : List Nat) (k : Nat) (h : k ≤ l.length) : (lay bs l k).length = bs.length + l.length := by
  simp [lay]; omega
theorem lay_all (bs l : List Nat) : lay bs l l.length = bs ++ l := by simp [lay]
theorem lay_zero (bs l : List Nat) : lay bs l 0 = bs ++ List.replicate l.length 0 := by simp [lay]
theorem lay_get (bs l : List Nat) (k : Nat) (h : k < l.length) : (lay bs l k)[bs.length + k]? = some 0 := by
  unfold lay
  rw [List.getElem?_append_right (by omega), List.getElem?_append_right (by simp; omega)]
  simp only [List.length_take, Nat.add_sub_cancel_left]
  rw [List.getElem?_replicate, if_pos (by omega)]
theorem lay_set (bs l : List Nat) (k x : Nat) (h : l[k]? = some x) : (lay bs l k).set (bs.length + k) x = lay bs l (k + 1) := by
  obtain ⟨hk, rfl⟩ := List.getElem?_eq_some_iff.1 h
  unfold lay
  rw [List.set_append_right _ _ (by omega), Nat.add_sub_cancel_left]
  congr 1
  rw [List.set_append_right _ _ (by simp; omega), List.take_add_one, List.getElem?_eq_getElem hk]
  simp only [List.length_take, Option.toList_some, List.append_assoc]
  congr 1
  have e : l.length - k = (l.length - (k + 1)) + 1 := by omega
  have e2 : k - min k l.length = 0 := by omega
  rw [e, e2, List.replicate_succ, List.set_cons_zero]
  rfl
theorem B8_one (bs : List Nat) : ∀ v ∈ bs.map B8, v.oneCell' = true := by
  intro v hv
  obtain ⟨x, _, rfl⟩ := List.mem_map.1 hv
  rfl

/-- 'copy(out, b)' into a row of zeros that the call made. -/
theorem copy_run {W : World} {a : Option Addr} {bs : List Nat} (cap N g : Nat) (h : Sl W a bs) (hO : OwnB W g (List.replicate N 0)) (hN : bs.length ≤ N) :
    ∃ w2, Sem.run Try.prog (Builtin.copy_ #[22, 22] 3 #[.slice (some ⟨g, 0, none⟩) N N, .slice a bs.length cap]) W = .ok (.int .i64 bs.length) w2 ∧
      OwnB w2 g (bs ++ List.replicate (N - bs.length) 0) ∧ Below g W w2 := by
  rcases h with rfl | ⟨b, off, rfl, hl, hs⟩
  · refine ⟨W, ?_, by simpa using hO, Below.refl _ _⟩
    exact run_copy_none (P := Try.prog) W 22 22 3 5 _ a N N 0 cap Try.underlying22 (by kernel_rfl) (by simp)
  · have hr := run_copy_row Try.prog W 22 22 3 5 g 0 N N ⟨b, off, none⟩ bs.length cap _ 5 (bs.map B8) Try.underlying22 (by kernel_rfl) hO (by rw [List.length_map]; exact (Nat.min_eq_left hN).symm)
      (fun j v hv => by
        rw [List.getElem?_map] at hv
        obtain ⟨x, hx, rfl⟩ := Option.map_eq_some_iff.1 hv
        have e : (⟨b, off, none⟩ : Addr).add j = ⟨b, off + j, none⟩ := by simp [Addr.add]
        rw [e]
        exact (hs j x hx).1) (by simp; omega) (B8_one bs)
    rw [List.length_map] at hr
    refine ⟨_, hr, ?_, below_setRow (Below.refl _ _) (Nat.le_refl _) _⟩
    unfold OwnB
    rw [setRow_heap W g _ _ 5 _ hO]
    simp

theorem width16 (w : World) : Calls Try.prog 48 #[] w fun e w' => e = .returned (.int .i64 2) ∧ w' = w := by
  go_enter Try.func48, Try.ntmps48
  go_wp2
  refine wp_loop_rounds 3 ?_
  iterate 3 (rw [rounds_succ]; go_wp2)
  go_ret
  exact ⟨rfl, rfl⟩

theorem take16_low (a : Option Addr) (len cap : Nat) (w : World) (p : Int) (h : p < 0) :
    Calls Try.prog 42 #[.slice a len cap, .int .i64 p] w fun e w' => e = .returned (.tuple #[.int .u16 0, .int .i64 6]) ∧ w' = w := by
  go_enter Try.func42, Try.ntmps42
  go_wp2_with (go_at_call 48; refine (width16 _).mono ?_; rintro e w' ⟨rfl, rfl⟩)
  go_ret2
  exact ⟨rfl, rfl⟩

theorem take16_high (a : Option Addr) (len cap : Nat) (w : World) (p : Int) (hl : len ≤ maxLen) (h0 : 0 ≤ p) (h : (len : Int) - 2 < p) :
    Calls Try.prog 42 #[.slice a len cap, .int .i64 p] w fun e w' => e = .returned (.tuple #[.int .u16 0, .int .i64 6]) ∧ w' = w := by
  unfold maxLen at hl
  go_enter Try.func42, Try.ntmps42
  go_wp2_with (go_at_call 48; refine (width16 _).mono ?_; rintro e w' ⟨rfl, rfl⟩)
  go_ret2
  exact ⟨rfl, rfl⟩

set_option maxHeartbeats 400000 in
theorem take16_good (a : Option Addr) (cap p : Nat) (bs : List Nat) (w : World) (hg : Sl w a bs) (hl : bs.length ≤ maxLen) (h : p + 2 ≤ bs.length) :
    Calls Try.prog 42 #[.slice a bs.length cap, .int .i64 p] w fun e w' => e = .returned (.tuple #[.int .u16 (leV ((bs.drop p).take 2)), .int .i64 0]) ∧ w' = w := by
  unfold maxLen at hl
  obtain ⟨b, off, rfl, _, hseg⟩ : ∃ b off, a = some ⟨b, off, none⟩ ∧ b < w.heap.size ∧ Seg w b off bs := by
    rcases hg with rfl | hh
    · simp at h
    · exact hh
  have hp : (p : Int) + 2 ≤ bs.length := by omega
  go_enter Try.func42, Try.ntmps42
  go_wp2_with (go_at_call 48; refine (width16 _).mono ?_; rintro e w' ⟨rfl, rfl⟩)
  go_loop [7, 8] (fun v i => ∃ k V : Nat, k ≤ 2 ∧ i = .int .i64 ((p : Int) + 2 - 1 - k) ∧ v = .int .u64 V ∧ V < 256 ^ k ∧ V = leV ((bs.drop (p + 2 - k)).take k)) (fun _ i => (intOf i + 1 - p).toNat)
  case atStart => exact ⟨0, 0, by omega, int_congr' (by omega), rfl, by omega, by simp [leV]⟩
  case round =>
    obtain ⟨k, V, hk, rfl, rfl, hV, hVk⟩ := hrel
    have HV : Hid (V = leV ((bs.drop (p + 2 - k)).take k)) := hVk
    have HW : Hid (V < 256 ^ k) := hV
    clear hVk hV
    by_cases hlt : k < 2
    · obtain ⟨x, hx⟩ : ∃ x, bs[p + 2 - 1 - k]? = some x := ⟨_, List.getElem?_eq_getElem (by omega)⟩
      obtain ⟨hc, hx2⟩ := hseg _ x hx
      have HX : Hid (bs[p + 2 - 1 - k]? = some x) := hx
      clear hx
      have hi : ((p : Int) + 2 - 1 - k) = ((p + 2 - 1 - k : Nat) : Int) := by omega
      rw [hi]
      clear hi
      have hle : (p : Int) ≤ ((p + 2 - 1 - k : Nat) : Int) := by omega
      have hlt2 : ((p + 2 - 1 - k : Nat) : Int) < bs.length := by omega
      have HQ : Hid (p + 2 - 1 - k + k + 1 = p + 2) := show _ = _ by omega
      generalize p + 2 - 1 - k = q at *
      go_wp2
      go_round
      case rel =>
        have hq := HQ.out
        have hb := pow_bound V k 2 HW.out hlt (by omega)
        have hw := HW.out
        refine ⟨k + 1, V * 256 + x, by omega, int_congr' (by omega), int_congr' (or_eq V x hb hx2), ?_, ?_⟩
        · rw [Nat.pow_succ]; omega
        · rw [show p + 2 - (k + 1) = q by omega, leV_step bs q k x HX.out, HV.out, show p + 2 - k = q + 1 by omega]
      case measure => simp [intOf]; omega
    · have hk2 : k = 2 := by omega
      have HK : Hid (k = 2) := hk2
      have hi : ((p : Int) + 2 - 1 - k) = (p : Int) - 1 := by omega
      rw [hi]
      clear hi hk2
      go_wp2
      go_ret2
      have hw := HW.out
      have hk2 := HK.out
      subst hk2
      have hv := HV.out
      rw [Nat.add_sub_cancel] at hv
      refine ⟨ret_two ?_, rfl⟩
      rw [← hv]
      rw [IntKind.wrap_u16]; omega

set_option maxHeartbeats 400000 in
theorem put16 (a : Option Addr) (cap v : Nat) (bs : List Nat) (w : World) (hg : Sl w a bs) (hl : bs.length ≤ 140737488355328) (hv : v < 65536) :
    Calls Try.prog 46 #[.slice a bs.length cap, .int .u16 v] w fun e w' => e = .returned (.slice (some ⟨w.heap.size, 0, none⟩) (bs.length + 2) (bs.length + 2)) ∧
      Below w.heap.size w w' ∧ OwnB w' w.heap.size (bs ++ leB 2 v) := by
  have hmk := run_make_row' (P := Try.prog) 22 5 (.int .u8 0) 1 Try.underlying22 Try.info5 rfl .i64 .i64 (bs.length + 2) (by omega) (by omega)
  have ec : ((bs.length + 2 : Nat) : Int) = (bs.length : Int) + 2 := by omega
  rw [ec] at hmk
  clear ec
  have hO := OwnB.made w (bs.length + 2)
  have hB : Below w.heap.size w (w.alloc (.cells (madeCells #[.int .u8 0] (bs.length + 2)) 5)) := (Below.refl _ _).alloc (Nat.le_refl _) _
  obtain ⟨w2, hcp, hO2, hB2⟩ := copy_run cap (bs.length + 2) w.heap.size (hg.below hB) hO (by omega)
  have HO2 : Hid (OwnB w2 w.heap.size (lay bs (leB 2 v) 0)) := by
    rw [lay_zero, leB_length]; rw [Nat.add_sub_cancel_left] at hO2; exact hO2
  have HB2 : Hid (Below w.heap.size w w2) := hB.trans hB2
  clear hO hB hO2 hB2 hg
  go_enter Try.func46, Try.ntmps46
  go_wp2_with (go_at_call 48; refine (width16 _).mono ?_; rintro e w' ⟨rfl, rfl⟩)
  go_loopw [6, 7] (fun r i wr => ∃ k R : Nat, k ≤ 2 ∧ i = .int .i64 ((bs.length + k : Nat) : Int) ∧ r = .int .u64 R ∧ R = v / 256 ^ k ∧ OwnB wr w'.heap.size (lay bs (leB 2 v) k) ∧ Below w'.heap.size w' wr)
    (fun _ i _ => bs.length + 2 - (intOf i).toNat)
  case atStart => exact ⟨0, v, by omega, rfl, rfl, by simp, HO2.out, HB2.out⟩
  case round =>
    obtain ⟨k, R, hk, rfl, rfl, hR, hOw, hBw⟩ := hrel
    have HR := hide hR
    have HOw := hide hOw
    have HBw := hide hBw
    by_cases hlt : k < 2
    · have hc := hOw.cell _ 0 (lay_get bs (leB 2 v) k (by rw [leB_length]; exact hlt))
      have hf := hOw.frozen (bs.length + k)
      have hlt2 : ((bs.length + k : Nat) : Int) < (bs.length : Int) + 2 := by omega
      have HQ : Hid (bs.length + k + 1 = bs.length + (k + 1)) := Nat.add_assoc _ _ _
      clear hR hOw hBw hmk hcp HO2 HB2
      generalize hq : bs.length + k = q at *
      have Hq := hide hq
      clear hq
      go_wp2
      go_roundw
      case rel =>
        have hx : (R : Int) % 256 = ((R % 256 : Nat) : Int) := by omega
        refine ⟨k + 1, R / 256, by omega, int_congr' (by have := HQ.out; omega), int_congr' (by omega), ?_, ?_, ?_⟩
        · rw [HR.out, Nat.div_div_eq_div_mul, Nat.pow_succ]
        · rw [hx]
          have h1 := HOw.out.set q (R % 256)
          have h2 := lay_set bs (leB 2 v) k (R % 256) (by rw [HR.out]; exact leB_get 2 v k hlt)
          rw [Hq.out] at h2
          rw [h2] at h1
          exact h1
        · exact HBw.out.setCell (Nat.le_refl _) _
      case measure => have := Hq.out; simp [intOf]; omega
    · have hk2 : k = 2 := by omega
      subst hk2
      have hlt2 : (bs.length : Int) + 2 ≤ ((bs.length + 2 : Nat) : Int) := by omega
      clear hR hOw hBw hmk hcp HO2 HB2
      go_wp2
      go_ret
      refine ⟨rfl, HBw.out, ?_⟩
      have h1 := HOw.out
      have h2 := lay_all bs (leB 2 v)
      rw [leB_length] at h2
      rw [h2] at h1
      exact h1

end Go.Proofs.Ytheefdplbmneeaa
