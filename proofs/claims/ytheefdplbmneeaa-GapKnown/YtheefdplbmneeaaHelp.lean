/- What the helpers of the statements answer: copies of bytes, whether two lists of bytes are one, lists with marked room behind them. -/
import Derived.Test.YtheefdplbmneeaaEq
import Derived.Test.YtheefdplbmneeaaPut
import Derived.Test.YtheefdplbmneeaaCrc
import Derived.Maps.AppendAt
import Derived.Laws.AppendOwnNone
namespace Go.Proofs.Ytheefdplbmneeaa
open Go.RowKit
set_option linter.unusedVariables false

theorem ownB_of_owns {W : World} {base g : Nat} {bs : List Nat} (h : W.ownsRow base 5 1 (.slice (some ⟨g, 0, none⟩) bs.length bs.length) bs.length (bs.map B8)) : OwnB W g bs := by
  rcases h.2 with ⟨h0, _⟩ | ⟨g', cap, cur, hv, _, hg, hn, _, hs, hc⟩
  · cases h0
  · cases hv
    have e : cur = (bs.map B8).toArray := by
      apply Array.ext'
      rw [← hc, List.take_of_length_le (by simp [hs])]
    rw [e] at hg
    exact hg

theorem eqBytes_len (a b : Option Addr) (n m c d : Nat) (w : World) (h : ((n : Int) != (m : Int)) = true) :
    Calls Try.prog 23 #[.slice a n c, .slice b m d] w fun e w' => e = .returned (.bool false) ∧ w' = w := by
  go_enter Try.func23, Try.ntmps23
  go_wp2
  go_ret
  exact ⟨rfl, rfl⟩

set_option maxHeartbeats 400000 in
theorem eqBytes_same (a b : Option Addr) (c d : Nat) (xs ys : List Nat) (w : World) (ha : Sl w a xs) (hb : Sl w b ys) (hl : xs.length = ys.length) (hm : xs.length ≤ 9223372036854775807) :
    Calls Try.prog 23 #[.slice a xs.length c, .slice b xs.length d] w fun e w' => e = .returned (.bool (decide (xs = ys))) ∧ ∃ n, w' = w.drewN n := by
  have HL := hide hl
  clear hl
  have hne : ((xs.length : Int) != (xs.length : Int)) = false := by simp
  go_enter Try.func23, Try.ntmps23
  go_wp2
  go_loopw [5] (fun i wr => ∃ k n : Nat, k ≤ xs.length ∧ i = .int .i64 k ∧ xs.take k = ys.take k ∧ wr = w.drewN n) (fun i _ => xs.length - (intOf i).toNat)
  case atStart => exact ⟨0, 0, by omega, rfl, rfl, rfl⟩
  case round =>
    obtain ⟨k, n, hk, rfl, htk, rfl⟩ := hrel
    have HT := hide htk
    clear htk
    by_cases hlt : k < xs.length
    · obtain ⟨x, hx⟩ : ∃ x, xs[k]? = some x := ⟨_, List.getElem?_eq_getElem hlt⟩
      obtain ⟨y, hy⟩ : ∃ y, ys[k]? = some y := ⟨_, List.getElem?_eq_getElem (by have := HL.out; omega)⟩
      obtain ⟨b1, o1, rfl, _, hs1⟩ : ∃ b off, a = some ⟨b, off, none⟩ ∧ b < w.heap.size ∧ Seg w b off xs := by
        rcases ha with rfl | h
        · simp at hlt
        · exact h
      obtain ⟨b2, o2, rfl, _, hs2⟩ : ∃ b0 off, b = some ⟨b0, off, none⟩ ∧ b0 < w.heap.size ∧ Seg w b0 off ys := by
        rcases hb with rfl | h
        · simp at hy
        · exact h
      have c1 := (hs1 k x hx).1
      have c2 := (hs2 k y hy).1
      have HX := hide hx
      have HY := hide hy
      clear hx hy hs1 hs2 ha hb
      have hki : (k : Int) < (xs.length : Int) := by omega
      by_cases hxy : x = y
      · have hb1 : ((x : Int) != (y : Int)) = false := by simp [hxy]
        have HXY := hide hxy
        clear hxy
        go_wp2
        go_quiet (fail)
        go_wp2
        go_roundw
        case rel =>
          refine ⟨k + 1, n + nq, by omega, by go_num, ?_, rfl⟩
          rw [List.take_add_one, List.take_add_one, HX.out, HY.out, HT.out, HXY.out]
        case measure => simp [intOf]; omega
      · have hb1 : ((x : Int) != (y : Int)) = true := by simp; omega
        have HXY := hide hxy
        clear hxy
        go_wp2
        go_quiet (fail)
        go_wp2
        go_ret
        refine ⟨ret_bool (Eq.symm (decide_eq_false fun h => HXY.out ?_)), n + nq, by simp⟩
        have h1 := HX.out
        rw [h, HY.out] at h1
        exact (Option.some.inj h1).symm
    · have hkk : k = xs.length := by omega
      subst hkk
      go_wp2
      go_ret
      refine ⟨ret_bool (Eq.symm (decide_eq_true ?_)), _, rfl⟩
      have h1 := HT.out
      rw [List.take_length, HL.out, List.take_length] at h1
      exact h1

theorem eqBytes_any (a b : Option Addr) (c d : Nat) (xs ys : List Nat) (w : World) (ha : Sl w a xs) (hb : Sl w b ys) (hm : xs.length ≤ 9223372036854775807) :
    Calls Try.prog 23 #[.slice a xs.length c, .slice b ys.length d] w fun e w' => e = .returned (.bool (decide (xs = ys))) ∧ ∃ n, w' = w.drewN n := by
  by_cases hl : xs.length = ys.length
  · have h := eqBytes_same a b c d xs ys w ha hb hl hm
    rw [← hl]
    exact h
  · refine (eqBytes_len a b xs.length ys.length c d w (by simp; omega)).mono ?_
    rintro e w' ⟨rfl, rfl⟩
    exact ⟨ret_bool (Eq.symm (decide_eq_false fun h => hl (by rw [h]))), 0, rfl⟩

/-- The mark at a place. -/
def markAt (i : Nat) : Nat := (165 ^^^ i) % 256
/-- The marks behind a list of so many bytes. -/
def marks (n : Nat) : List Nat := (List.range 80).map fun (j : Nat) => markAt (n + j)
theorem marks_length (n : Nat) : (marks n).length = 80 := by simp [marks]
theorem marks_get (n j : Nat) (h : j < 80) : (marks n)[j]? = some (markAt (n + j)) := by simp [marks, h]
theorem mark_eq (i : Nat) (h : i ≤ 9223372036854775807) : IntKind.u8.wrap (bits BinOp.xor IntKind.i64 165 (i : Int)) = ((markAt i : Nat) : Int) := by
  have hx : 165 ^^^ i < 2 ^ 63 := Nat.xor_lt_two_pow (by omega) (by omega)
  have e : bits BinOp.xor IntKind.i64 165 (i : Int) = ((165 ^^^ i : Nat) : Int) := by
    show IntKind.i64.wrap ((BitVec.ofInt 64 (((165 : Nat)) : Int) ^^^ BitVec.ofInt 64 (i : Int)).toNat : Int) = _
    rw [BitVec.toNat_xor, ofInt_u64 165 (by omega), ofInt_u64 i (by omega), IntKind.wrap_i64]
    omega
  rw [e, IntKind.wrap_u8']
  unfold markAt
  omega

set_option maxHeartbeats 400000 in
theorem spare_any (a : Option Addr) (cap : Nat) (bs : List Nat) (w : World) (hg : Sl w a bs) (hl : bs.length ≤ 140737488355328) :
    Calls Try.prog 25 #[.slice a bs.length cap] w fun e w' => e = .returned (.slice (some ⟨w.heap.size, 0, none⟩) bs.length (bs.length + 80)) ∧ OwnB w' w.heap.size (bs ++ marks bs.length) ∧ Below w.heap.size w w' := by
  have hmk := run_make_row' (P := Try.prog) 22 5 (.int .u8 0) 1 Try.underlying22 Try.info5 rfl .i64 .i64 (bs.length + 80) (by omega) (by omega)
  have ec : ((bs.length + 80 : Nat) : Int) = (bs.length : Int) + 80 := by omega
  rw [ec] at hmk
  clear ec
  have hO := OwnB.made w (bs.length + 80)
  have hB : Below w.heap.size w (w.alloc (.cells (madeCells #[.int .u8 0] (bs.length + 80)) 5)) := (Below.refl _ _).alloc (Nat.le_refl _) _
  go_enter Try.func25, Try.ntmps25
  go_wp2
  clear hmk
  go_loopw [4] (fun i wr => ∃ k : Nat, k ≤ bs.length + 80 ∧ i = .int .i64 k ∧ OwnB wr w.heap.size (lay [] (bs ++ marks bs.length) k) ∧ Below w.heap.size w wr)
    (fun i _ => bs.length + 80 - (intOf i).toNat)
  case atStart => refine ⟨0, by omega, rfl, ?_, hB⟩; rw [lay_zero]; simpa [marks_length] using hO
  case round =>
    clear hO hB
    obtain ⟨k, hk, rfl, hOr, hBr⟩ := hrel
    have HB := hide hBr
    have HO := hide hOr
    by_cases hlt : k < bs.length
    · obtain ⟨x, hx⟩ : ∃ x, bs[k]? = some x := ⟨_, List.getElem?_eq_getElem hlt⟩
      obtain ⟨b, off, rfl, hbl, hseg⟩ : ∃ b off, a = some ⟨b, off, none⟩ ∧ b < w.heap.size ∧ Seg w b off bs := by
        rcases hg with rfl | h
        · simp at hlt
        · exact h
      have hc : wr.cell? ⟨b, off + k, none⟩ = some (.int .u8 (x : Int)) := (hBr.cell (p := ⟨b, off + k, none⟩) hbl).trans (hseg k x hx).1
      have hd : wr.cell? ⟨w.heap.size, k, none⟩ = some (.int .u8 ((0 : Nat) : Int)) := by
        have h := lay_get [] (bs ++ marks bs.length) k (by simp; omega)
        rw [List.length_nil, Nat.zero_add] at h
        exact hOr.cell k 0 h
      have hf := hOr.frozen k
      have hki : (k : Int) < (bs.length : Int) := by omega
      have hki2 : (k : Int) < (bs.length : Int) + 80 := by omega
      have HX := hide hx
      clear hx hseg hg hBr hOr
      go_wp2
      go_roundw
      case rel =>
        refine ⟨k + 1, by omega, by go_num, ?_, HB.out.setCell (Nat.le_refl _) _⟩
        have h := lay_set [] (bs ++ marks bs.length) k x (by rw [List.getElem?_append_left hlt]; exact HX.out)
        rw [List.length_nil, Nat.zero_add] at h
        rw [← h]
        exact HO.out.set k x
      case measure => simp [intOf]; omega
    · by_cases hlt2 : k < bs.length + 80
      · have hd : wr.cell? ⟨w.heap.size, k, none⟩ = some (.int .u8 ((0 : Nat) : Int)) := by
          have h := lay_get [] (bs ++ marks bs.length) k (by simp [marks_length]; omega)
          rw [List.length_nil, Nat.zero_add] at h
          exact hOr.cell k 0 h
        have hf := hOr.frozen k
        have hki : (bs.length : Int) ≤ (k : Int) := by omega
        have hki2 : (k : Int) < (bs.length : Int) + 80 := by omega
        have hme := mark_eq k (by omega)
        clear hg hBr hOr
        go_wp2
        go_roundw
        case rel =>
          refine ⟨k + 1, by omega, by go_num, ?_, HB.out.setCell (Nat.le_refl _) _⟩
          have h := lay_set [] (bs ++ marks bs.length) k (markAt k) (by rw [List.getElem?_append_right (by omega), marks_get _ _ (by omega)]; congr 2; omega)
          rw [List.length_nil, Nat.zero_add] at h
          rw [← h]
          exact HO.out.set k (markAt k)
        case measure => simp [intOf]; omega
      · have hkk : k = bs.length + 80 := by omega
        have hki2 : (bs.length : Int) + 80 ≤ (k : Int) := by omega
        have HK := hide hkk
        clear hg hBr hOr hkk
        go_wp2
        go_ret
        have h := lay_all [] (bs ++ marks bs.length)
        have h1 := HO.out
        rw [HK.out, show bs.length + 80 = (bs ++ marks bs.length).length by simp [marks_length], h] at h1
        exact ⟨rfl, h1, HB.out⟩

/-- The head of a row of the call's own. -/
theorem OwnB.head {w : World} {g : Nat} {bs sp : List Nat} (h : OwnB w g (bs ++ sp)) (hx : ∀ x ∈ bs, x < 256) : Sl w (some ⟨g, 0, none⟩) bs := by
  refine .inr ⟨g, 0, rfl, h.lt, fun i x hi => ⟨?_, hx x (List.mem_of_getElem? hi)⟩⟩
  rw [Nat.zero_add]
  exact h.cell i x (by rw [List.getElem?_append_left (List.getElem?_eq_some_iff.1 hi).1]; exact hi)

theorem markAt_lt (i : Nat) : markAt i < 256 := Nat.mod_lt _ (by omega)

set_option maxHeartbeats 400000 in
theorem kept_true (g : Nat) (a : Option Addr) (c : Nat) (bs : List Nat) (w : World) (hO : OwnB w g (bs ++ marks bs.length)) (ha : Sl w a bs) (hl : bs.length ≤ 140737488355328) :
    Calls Try.prog 28 #[.slice (some ⟨g, 0, none⟩) bs.length (bs.length + 80), .slice a bs.length c] w fun e w' => e = .returned (.bool true) ∧ ∃ n, w' = w.drewN n := by
  have hx := ha.lt
  have ce := eqBytes_any (some ⟨g, 0, none⟩) a (bs.length + 80) c bs bs w (hO.head hx) ha (by omega)
  rw [decide_eq_true rfl] at ce
  have CE := hide ce
  clear ce hx
  go_enter Try.func28, Try.ntmps28
  go_wp2_with (go_at_call 23; refine (unhide CE).mono ?_; rintro e w' ⟨rfl, n0, rfl⟩)
  go_loopw [6] (fun i wr => ∃ k n : Nat, k ≤ 80 ∧ i = .int .i64 ((bs.length + k : Nat) : Int) ∧ wr = w.drewN n) (fun i _ => bs.length + 80 - (intOf i).toNat)
  case atStart => exact ⟨0, n0, by omega, rfl, rfl⟩
  case round =>
    obtain ⟨k, n, hk, rfl, rfl⟩ := hrel
    by_cases hlt : k < 80
    · have hc := hO.cell (bs.length + k) (markAt (bs.length + k)) (by rw [List.getElem?_append_right (by omega), Nat.add_sub_cancel_left]; exact marks_get _ _ hlt)
      have hme := mark_eq (bs.length + k) (by omega)
      have hki : ((bs.length + k : Nat) : Int) < (bs.length : Int) + 80 := by omega
      have HK : Hid (bs.length + k + 1 = bs.length + (k + 1)) := Nat.add_assoc _ _ _
      have HQ : Hid (bs.length ≤ bs.length + k) := Nat.le_add_right _ _
      clear hO ha CE
      generalize bs.length + k = q at *
      have hne : ((markAt q : Int) != (markAt q : Int)) = false := by simp
      generalize markAt q = mq at *
      go_wp2
      go_roundw
      case rel => exact ⟨k + 1, n, by omega, int_congr' (by have := HK.out; omega), rfl⟩
      case measure => have := HK.out; simp [intOf]; omega
    · have hkk : k = 80 := by omega
      subst hkk
      have hki : (bs.length : Int) + 80 ≤ ((bs.length + 80 : Nat) : Int) := by omega
      clear hO ha CE
      go_wp2
      go_ret
      exact ⟨rfl, n, rfl⟩

theorem sl_of_owns {W : World} {base : Nat} {v : Value} {bs : List Nat} (h : W.ownsRow base 5 1 v bs.length (bs.map B8)) (hx : ∀ x ∈ bs, x < 256) : ∃ a cap, v = .slice a bs.length cap ∧ Sl W a bs := by
  rcases h.2 with ⟨rfl, h0⟩ | ⟨g, cap, cur, rfl, _, hg, hn, _, hs, hc⟩
  · exact ⟨none, 0, by rw [h0], .inl (List.eq_nil_of_length_eq_zero h0)⟩
  · refine ⟨_, cap, rfl, .inr ⟨g, 0, rfl, (Array.getElem?_eq_some_iff.1 hg).1, fun i x hx' => ⟨?_, hx x (List.mem_of_getElem? hx')⟩⟩⟩
    have h1 : (bs.map B8)[i]? = some (B8 x) := by rw [List.getElem?_map, hx']; rfl
    have h2 : i < bs.length := (List.getElem?_eq_some_iff.1 hx').1
    rw [← hc, List.getElem?_take, if_pos (by omega)] at h1
    simp only [Nat.zero_add, World.cell?, hg]
    simpa [B8] using h1

theorem owns_of_ownB {W : World} {base g : Nat} {bs : List Nat} (h : OwnB W g bs) (hb : base ≤ g) (hm : bs.length ≤ maxLen) : W.ownsRow base 5 1 (.slice (some ⟨g, 0, none⟩) bs.length bs.length) bs.length (bs.map B8) :=
  ⟨by simp, .inr ⟨g, bs.length, _, rfl, hb, h, Nat.le_refl _, hm, by simp, by rw [List.take_of_length_le (by simp)]⟩⟩

theorem src {w w' : World} {ad : Addr} {bs : List Nat} (h : Sl w (some ad) bs) (hb : Below w.heap.size w w') : ∀ j u, (bs.map B8)[j]? = some u → w'.cell? (ad.add j) = some u := by
  intro j u hu
  rcases h with rfl | ⟨b, off, he, hl, hs⟩
  · simp at hu
  · cases he
    rw [List.getElem?_map] at hu
    obtain ⟨x, hx, rfl⟩ := Option.map_eq_some_iff.1 hu
    have e : (⟨b, off, none⟩ : Addr).add j = ⟨b, off + j, none⟩ := by simp [Addr.add]
    rw [e]
    exact (hb.cell (p := ⟨b, off + j, none⟩) hl).trans (hs j x hx).1

/-- 'append(x, y...)' on bytes, x the call's own, y whatever came in or was made. -/
theorem wpList_app_bytes {w : World} {ops : Array Oper} {rest : List Oper} {o : Oper} {a : Act} {Q : Exit → Act → World → Prop} (hgd : o.guard = none) (s x : Operand)
    (ho : o.op = .call { callee := .builtin .append, args := #[s, x], argTypes := #[22, 22] })
    (base : Nat) (v : Value) (xs : List Nat) (hs : a.eval s = v) (hown : w.ownsRow base 5 1 v xs.length (xs.map B8))
    (a1 : Option Addr) (c : Nat) (ys : List Nat) (hx : a.eval x = .slice a1 ys.length c) (hnil : a1 = none → c = 0) (hys : Sl w a1 ys) (hb : xs.length + ys.length ≤ 140737488355328) (hbase : base ≤ w.heap.size)
    (h : ∀ v' w', w'.ownsRow base 5 1 v' (xs ++ ys).length ((xs ++ ys).map B8) → Below base w w' → wpList Try.prog ops Q rest (a.put o.dst v') w') : wpList Try.prog ops Q (o :: rest) a w := by
  obtain ⟨i0, hi, hz0, hz1, hz2⟩ := info_parts Try.info5
  cases a1 with
  | none =>
    obtain rfl : ys = [] := by
      rcases hys with h0 | ⟨b, off, h0, _⟩
      · exact h0
      · cases h0
    rw [hnil rfl] at hx
    refine wpList_append_own_none hgd s x 22 ho base 5 i0 1 Try.underlying22 hi v xs.length (xs.map B8) hs hown hx (h v w ?_ (Below.refl _ _))
    simpa using hown
  | some ad =>
    refine wpList_append_own w hgd s x 22 ho base 5 i0 (.int .u8 0) 1 1 Try.underlying22 hi hz0 hz1 hz2 rfl (by omega) v xs.length (xs.map B8) hs hown ad ys.length c (ys.map B8) hx (by simp) (src hys (Below.refl _ _)) (B8_one ys)
      (by unfold maxLen; omega) (by omega) hbase fun v' w' h1 h2 _ => h v' w' ?_ ?_
    · simpa using h1
    · exact (Below.refl _ _).grown h2 hbase fun k e => (hown.lt k e).1

end Go.Proofs.Ytheefdplbmneeaa
