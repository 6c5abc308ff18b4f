/- The road of UtfEncodes: for every list of runes it returns true, and writes nothing that was there. -/
import Derived.Test.YtmidlkjdjohbdaaURefE
import Derived.Test.YtmidlkjdjohbdaaUFrsW
import Derived.Laws.AppendOwnNone
namespace Go.Proofs.Ytmidlkjdjohbdaa
open Go.RowKit
set_option linter.unusedVariables false

theorem encode_eq (z : Int) : Utf8.encode z = ⟨(Lib.encodeRune z).toArray⟩ := by
  unfold Utf8.encode Lib.encodeRune
  have hv : Utf8.valid z = mayB z := by
    unfold Utf8.valid mayB
    rw [Bool.eq_iff_iff]
    simp only [Bool.or_eq_true, Bool.and_eq_true, decide_eq_true_eq]
    omega
  rw [hv]
  cases hm : mayB z with
  | false =>
    have h : z < 0 ∨ (55296 ≤ z ∧ z ≤ 57343) ∨ 1114111 < z := by
      have := mt (mayB_iff (n := z)).2 (by rw [hm]; simp)
      omega
    rw [Lib.encodeRuneZ_bad h]
    simp only [Bool.false_eq_true, if_false, Utf8.runeError]
    rfl
  | true =>
    have h := mayB_iff.1 hm
    simp only [if_true]
    obtain ⟨n, rfl⟩ : ∃ n : Nat, z = (n : Int) := ⟨z.toNat, by omega⟩
    rw [Int.toNat_natCast]
    by_cases h1 : n < 128
    · rw [Lib.encodeRuneZ_one (by omega) (by omega), if_pos h1]; rfl
    · rw [if_neg h1]
      by_cases h2 : n < 2048
      · rw [Lib.encodeRuneZ_two (by omega) (by omega), if_pos h2]; rfl
      · rw [if_neg h2]
        by_cases h3 : n < 65536
        · rw [Lib.encodeRuneZ_three (by omega), if_pos h3]; rfl
        · rw [Lib.encodeRuneZ_four (by omega) (by omega), if_neg h3]; rfl

theorem runesBytes_eq (zs : List Int) : runesBytes zs = ⟨(encV zs).toArray⟩ := by
  have key : ∀ (zs : List Int) (l : List UInt8), zs.foldl (fun r n => r ++ Utf8.encode n) (⟨l.toArray⟩ : ByteArray) = ⟨(l ++ encV zs).toArray⟩ := by
    intro zs
    induction zs with
    | nil => intro l; simp [encV]
    | cons z zs ih =>
      intro l
      rw [List.foldl_cons, encode_eq, ByteArray.mk_append_mk, ih]
      congr 2
      unfold encV
      rw [List.flatMap_cons, List.append_assoc]
  have := key zs []
  rw [List.nil_append] at this
  exact this

theorem encode_any' (a : Option Addr) (cap : Nat) (zs : List Int) (w : World) (h : SlU w a zs) :
    Calls Try.prog 23 #[.slice a zs.length cap] w fun e w' => e = .returned (.string ⟨(encV zs).toArray⟩) ∧ w' = w := by
  have := encode_any a cap zs w h
  rw [runesBytes_eq] at this
  exact this

theorem map_at (zs : List Int) (k : Nat) (z : Int) (h : zs[k]? = some z) : (zs.map R32)[k]? = some (.int .i32 z) := by rw [List.getElem?_map, h]; rfl
/-- Five marks behind a list. -/
def marks (j : Nat) : List Int := (List.range j).map (fun (i : Nat) => 9728 + (i : Int))
theorem marks_succ (j : Nat) : marks (j + 1) = marks j ++ [9728 + (j : Int)] := by unfold marks; rw [List.range_succ, List.map_append]; rfl
theorem marks_len (j : Nat) : (marks j).length = j := by unfold marks; simp

theorem cell_one_set (w : World) (p : Addr) (x v : Value) (t : TypeId) : ∀ j u, [v][j]? = some u → ((w.setCell p x).alloc (.cells #[v] t)).cell? ((⟨w.heap.size, 0, none⟩ : Addr).add j) = some u := by
  have := cell_one_new (w.setCell p x) v t
  have e : (w.setCell p x).heap.size = w.heap.size := by simp
  rw [e] at this
  exact this
theorem slu_len {W : World} {base : Nat} {v : Value} {zs : List Int} {m : Nat} (h : W.ownsRow base 21 1 v m (zs.map R32)) (hm : zs.length = m) : ∃ a cap, v = .slice a m cap ∧ SlU W a zs := by
  subst hm
  exact slu_of_owns h

namespace utfEncodes
abbrev Row (W : World) (base : Nat) (v : Value) (k : Nat) (xs : List Value) : Prop := W.ownsRow base 21 1 v k xs

/-- The walk behind the first copy: in is a row of the call's own. -/
def Tail (zs : List Int) (m : Nat) (a : Option Addr) (cap : Nat) (w : World) : Prop := True

set_option maxRecDepth 100000 in
set_option maxHeartbeats 4000000 in
theorem walk (a : Option Addr) (cap : Nat) (zs : List Int) (w : World) (h : SlU w a zs) (hz : ∀ z ∈ zs, -2147483648 ≤ z ∧ z ≤ 2147483647) (hs : zs.length ≤ 35184372087808) (hn : a = none → cap = 0) :
    Calls Try.prog 5 #[.slice a zs.length cap] w fun e w' => e = .returned (.bool true) ∧ Below w.heap.size w w' := by
  obtain ⟨i0, hi, hz0, hz1, hz2⟩ := info_parts Try.info32
  have ke := fun (W : World) (b : Option Addr) (c : Nat) (h : SlU W b zs) => encode_any' b c zs W h
  have kr := fun (W : World) (b : Option Addr) (c : Nat) (h : SlU W b zs) => refEncode_any b c zs W h hz (by omega)
  have hnil : a = none → zs.length = 0 := by
    intro ha
    rcases h with h | ⟨b, off, hb, _⟩
    · rw [h]; rfl
    · rw [ha] at hb; cases hb
  have hcells : ∀ (ad : Addr), a = some ad → ∀ j u, (zs.map R32)[j]? = some u → w.cell? (ad.add j) = some u := by
    intro ad ha j u hu
    rw [List.getElem?_map] at hu
    obtain ⟨x, hx, rfl⟩ := Option.map_eq_some_iff.1 hu
    rcases h with h | ⟨b, off, hb, _, hc⟩
    · rw [h] at hx; simp at hx
    · rw [ha] at hb
      cases hb
      have e : (⟨b, off, none⟩ : Addr).add j = ⟨b, off + j, none⟩ := by simp [Addr.add]
      rw [e]
      exact hc j x hx
  generalize hm : zs.length = m at *
  have HS := hide h
  have HZ := hide hz
  have KE := hide ke
  have KR := hide kr
  have HM := hide hm
  clear h hz ke kr hm
  have hone : ∀ u ∈ zs.map R32, u.oneCell' = true := by
    intro u hu
    obtain ⟨x, _, rfl⟩ := List.mem_map.1 hu
    rfl
  have HON := hide hone
  clear hone
  cases a with
  | none =>
    have hm0 : m = 0 := hnil rfl
    have hc0 : cap = 0 := hn rfl
    subst hc0
    clear hcells hnil hn
    have hmz : (Value.slice none m 0) = .slice none 0 0 := by rw [hm0]
    have ho1 : w.ownsRow w.heap.size 21 1 (.slice none 0 0) m (zs.map R32) := by
      have : zs = [] := List.eq_nil_of_length_eq_zero (by rw [HM.out]; exact hm0)
      rw [this, hm0]
      exact World.ownsRow_nil _ _ _ _
    have HO1 := hide ho1
    have HB1 := hide (Below.refl w.heap.size w)
    have HM0 := hide hm0
    have HMZ := hide hmz
    clear ho1 hm0 hmz
    go_enter Try.func5, Try.ntmps5
    go_wp2_with (at_builtin; refine wpList_append_own_none rfl _ _ 26 rfl w.heap.size 21 i0 1 Try.underlying26 hi (.slice none 0 0) 0 [] rfl (World.ownsRow_nil _ _ _ _) HMZ.out ?_)
    go_loopw [3, 4] (fun v q wr => ∃ j : Nat, j ≤ 5 ∧ q = .int .i64 j ∧ Row wr w.heap.size v (m + j) ((zs ++ marks j).map R32) ∧ Below w.heap.size w wr) (fun _ q _ => 5 - (intOf q).toNat)
    case atStart => exact ⟨0, by omega, rfl, by simpa [marks] using HO1.out, HB1.out⟩
    case round =>
      clear HB1 HO1
      obtain ⟨j, hj, rfl, ro, hB⟩ := hrel
      by_cases hlt : j < 5
      · have hlt' : (j : Int) < 5 := by omega
        have HB := hide hB
        have hBs := hB.size
        clear hB
        go_wp2_with (at_builtin; refine wpList_append_own _ rfl _ _ 26 rfl w.heap.size 21 i0 (.int .i32 0) 1 4 Try.underlying26 hi hz0 hz1 hz2 rfl (by omega) _ _ _ rfl (ro.alloc _) ⟨_, 0, none⟩ 1 1 [.int .i32 (9728 + (j : Int))] rfl rfl (cell_one_new _ _ _) (by simp [Value.oneCell']) (by unfold maxLen; omega) (by omega) (by simp; omega) ?_; intro v2 w2 ho2 hg2 _)
        go_roundw
        case rel =>
          refine ⟨j + 1, by omega, by go_num, ?_, ?_⟩
          · rw [marks_succ, ← List.append_assoc, List.map_append]
            exact ho2
          · exact (HB.out.alloc HB.out.size _).grown hg2 (by simp; omega) (fun k e => (ro.lt k e).1)
        case measure => simp [intOf]; omega
      · have hj5 : j = 5 := by omega
        subst hj5
        obtain ⟨g, cg, rfl, lg1, lg2⟩ := owns_slice ro (by omega)
        have hcap : m + 5 ≤ cg := by
          rcases ro.2 with ⟨h0, _⟩ | ⟨g', c', cur, hv, _, _, hc', _⟩
          · cases h0
          · cases hv; exact hc'
        have hcap' : ((m : Int) + 5) ≤ (cg : Int) := by omega
        have hsl : SlU wr (some ⟨g, 0, none⟩) zs := by
          refine .inr ⟨g, 0, rfl, lg2, fun i x hx => ?_⟩
          have hi' := (List.getElem?_eq_some_iff.1 hx).1
          rw [HM.out] at hi'
          rw [Nat.zero_add, ro.cellAt i (by omega), List.map_append, List.getElem?_append_left (by rw [List.length_map, HM.out]; exact hi')]
          exact map_at zs i x hx
        have HSL := hide hsl
        have RO := hide ro
        have HB := hide hB
        have hBs := hB.size
        clear hsl ro hB
        go_wp2_with (go_at_call 23; refine (KE.out _ _ _ HSL.out).mono ?_; rintro e w3 ⟨rfl, rfl⟩)
        generalize hE : encV zs = E at *
        have hEE : (E == E) = true := by simp
        have HE := hide hE
        clear hE
        obtain ⟨W0, hW0⟩ : ∃ W, W = w3 := ⟨_, rfl⟩
        subst hW0
        go_loopw [7] (fun q wq => ∃ i n : Nat, i ≤ m + 5 ∧ q = .int .i64 i ∧ wq = W0.drewN n) (fun q _ => m + 5 - (intOf q).toNat)
        case atStart => exact ⟨0, 0, by omega, rfl, rfl⟩
        case round =>
          obtain ⟨i, n, hi5, rfl, rfl⟩ := hrel
          by_cases hlt2 : i < m + 5
          · have hl2 : (i : Int) < (m : Int) + 5 := by omega
            have hl2' : (i : Int) < ((m + 5 : Nat) : Int) := by omega
            by_cases him : i < m
            · exact absurd him (by have := HM0.out; omega)
            · have him' : (m : Int) ≤ (i : Int) := by omega
              have hlf : decide ((i : Int) < (m : Int)) = false := decide_eq_false (by omega)
              have c1 : W0.cell? ⟨g, i, none⟩ = some (.int .i32 (9728 + (i : Int) - (m : Int))) := by
                rw [RO.out.cellAt i (by omega), List.map_append, List.getElem?_append_right (by rw [List.length_map, HM.out]; omega), List.length_map, HM.out]
                have : (marks 5)[i - m]? = some (9728 + ((i - m : Nat) : Int)) := by unfold marks; rw [List.getElem?_map, List.getElem?_range (by omega)]; rfl
                rw [map_at _ _ _ this]
                congr 2; omega
              have hb9 : 9728 + (i : Int) - (m : Int) ≤ 10000 := by omega
              have hb8 : 0 ≤ 9728 + (i : Int) - (m : Int) := by omega
              have hzz : (9728 + (i : Int) - (m : Int) != 9728 + (i : Int) - (m : Int)) = false := by simp
              go_wp2
              go_quiet (fail)
              go_wp2
              go_roundw
              case rel => exact ⟨i + 1, n + nq, by omega, by go_num, by simp⟩
              case measure => simp [intOf]; omega
          · have hl2 : (m : Int) + 5 ≤ (i : Int) := by omega
            have hl2' : ((m + 5 : Nat) : Int) ≤ (i : Int) := by omega
            have hB2 : Below W0.heap.size W0 (W0.drewN n) := below_drewN (Below.refl _ _) n
            have hsa : SlU (W0.drewN n) none zs := (HS.out.below HB.out).below hB2
            have HSA := hide hsa
            have HB3 := hide (bseq HB.out hB2)
            have RO3 := hide (ownsRow_below RO.out hB2)
            clear hsa hB2
            generalize W0.drewN n = W3 at *
            go_wp2_with (go_at_call 24; refine (KR.out _ _ _ HSA.out).mono ?_; rintro e w4 ⟨rfl, hB4⟩)
            have HB4 := hide (bseq HB3.out hB4)
            have RO4 := hide (ownsRow_below RO3.out hB4)
            have HSA4 := hide (HSA.out.below hB4)
            have lg4 := (RO4.out.lt g rfl).2
            have hB4s := HB4.out.size
            clear HB3 RO3 HSA hB4 HSL RO HB
            obtain ⟨P0, hP0⟩ : ∃ P, P = w4.heap.size := ⟨_, rfl⟩
            have lgP : g < P0 := by omega
            have hP0' : P0 ≤ w4.heap.size := by omega
            have hwP : w.heap.size ≤ P0 := by omega
            clear hP0 lg4
            go_loopw [8, 9] (fun v q wq => ∃ (k : Nat) (Y : List Int), k ≤ m ∧ Y.length = k ∧ q = .int .i64 k ∧ (∀ y ∈ Y, -2147483648 ≤ y ∧ y ≤ 2147483647) ∧ Row wq w.heap.size (.slice (some ⟨g, 0, none⟩) (m + 5) cg) (m + 5) ((Y ++ zs.drop k ++ marks 5).map R32) ∧
                Row wq P0 v k (Y.map R32) ∧ Below w.heap.size w wq ∧ P0 ≤ wq.heap.size) (fun _ q _ => m - (intOf q).toNat)
            case atStart => exact ⟨0, [], by omega, rfl, rfl, by simp, by simpa using RO4.out, World.ownsRow_nil _ _ _ _, HB4.out, hP0'⟩
            case round =>
              clear HB4 RO4 hP0' hB4s
              obtain ⟨k, Y, hk, hYl, rfl, hY, ro, rn, hB, hPs⟩ := hrel
              have HYL := hide hYl
              have HY := hide hY
              have HB := hide hB
              clear hYl hY hB
              by_cases hlt3 : k < m
              · have hl3 : (k : Int) < (m : Int) := by omega
                obtain ⟨z, hzk⟩ : ∃ z, zs[k]? = some z := ⟨_, List.getElem?_eq_getElem (by rw [HM.out]; exact hlt3)⟩
                have c1 : wr.cell? ⟨g, k, none⟩ = some (.int .i32 z) := by
                  rw [ro.cellAt k (by omega), List.append_assoc, List.map_append, List.getElem?_append_right (by rw [List.length_map, HYL.out]; exact Nat.le_refl _), List.length_map, HYL.out, Nat.sub_self, List.map_append, List.getElem?_append_left (by rw [List.length_map, List.length_drop, HM.out]; omega)]
                  exact map_at _ _ _ (by rw [List.getElem?_drop, Nat.add_zero]; exact hzk)
                have f1 := ro.frozenAt k
                obtain ⟨X, hX⟩ : ∃ X, X = bits BinOp.xor IntKind.i32 z (wrap32 ((k : Int) + 1)) := ⟨_, rfl⟩
                have hXb : -2147483648 ≤ X ∧ X ≤ 2147483647 := by
                  rw [hX]
                  have := wrap_within IntKind.i32 (BitVec.toNat (BitVec.ofInt IntKind.i32.bits z ^^^ BitVec.ofInt IntKind.i32.bits (wrap32 ((k : Int) + 1))))
                  exact this
                have st := (ro.stored k (.int .i32 X)).1
                have est : ((Y ++ zs.drop k ++ marks 5).map R32).set k (.int .i32 X) = ((Y ++ [X]) ++ zs.drop (k + 1) ++ marks 5).map R32 := by
                  have hd : zs.drop k = z :: zs.drop (k + 1) := by
                    obtain ⟨h1, h2⟩ := List.getElem?_eq_some_iff.1 hzk
                    rw [List.drop_eq_getElem_cons h1, h2]
                  rw [hd]
                  simp only [List.map_append, List.map_cons, List.append_assoc]
                  rw [List.set_append_right _ _ (by rw [List.length_map, HYL.out]; exact Nat.le_refl _), List.length_map, HYL.out, Nat.sub_self]
                  rfl
                rw [est] at st
                have rn2 := ownsRow_setCell_other rn (a := ⟨g, k, none⟩) (by intro e; have := (rn.lt g e).1; omega) (.int .i32 X)
                have hB2 := HB.out.setCell (p := ⟨g, k, none⟩) (by show w.heap.size ≤ g; omega) (.int .i32 X)
                have hsz2 : (wr.setCell ⟨g, k, none⟩ (.int .i32 X)).heap.size = wr.heap.size := by simp
                have ST := hide st
                have HB2 := hide hB2
                clear st est hB2 hzk
                subst hX
                go_wp2_with (at_builtin; refine wpList_append_own _ rfl _ _ 26 rfl P0 21 i0 (.int .i32 0) 1 4 Try.underlying26 hi hz0 hz1 hz2 rfl (by omega) _ _ _ rfl (rn2.alloc _) ⟨_, 0, none⟩ 1 1 [.int .i32 (bits BinOp.xor IntKind.i32 z (wrap32 ((k : Int) + 1)))] rfl rfl (cell_one_set _ _ _ _ _) (by simp [Value.oneCell']) (by unfold maxLen; omega) (by omega) (by simp; omega) ?_; intro v5 w5 ho5 hg5 _)
                have hs5 := hg5.size
                rw [World.size_alloc] at hs5
                go_roundw
                case rel =>
                  refine ⟨k + 1, Y ++ [bits BinOp.xor IntKind.i32 z (wrap32 ((k : Int) + 1))], by omega, by rw [List.length_append, HYL.out]; rfl, by go_num, ?_, ?_, ?_, ?_, by omega⟩
                  · intro y hy
                    rw [List.mem_append] at hy
                    rcases hy with hy | hy
                    · exact HY.out y hy
                    · rw [List.mem_singleton] at hy
                      rw [hy]
                      exact hXb
                  · exact (ST.out.alloc _).kept hg5 (Or.inr (by intro e; have := (rn.lt g e.symm).1; omega))
                  · rw [List.map_append]
                    exact ho5
                  · exact (HB2.out.alloc HB2.out.size _).grown hg5 (by simp; omega) (fun j e => by have := (rn.lt j e).1; omega)
                case measure => simp [intOf]; omega
              · have hkm : m = k := by omega
                subst hkm
                have hin : SlU wr (some ⟨g, 0, none⟩) Y := by
                  refine .inr ⟨g, 0, rfl, (ro.lt g rfl).2, fun i x hx => ?_⟩
                  have hi' := (List.getElem?_eq_some_iff.1 hx).1
                  rw [HYL.out] at hi'
                  rw [Nat.zero_add, ro.cellAt i (by omega), List.append_assoc, List.map_append, List.getElem?_append_left (by rw [List.length_map, HYL.out]; exact hi')]
                  exact map_at Y i x hx
                obtain ⟨an, cn, rfl, hnow⟩ := slu_len rn HYL.out
                have k1 := fun c => encode_any' (some ⟨g, 0, none⟩) c Y wr hin
                have k2 := refEncode_any an cn Y wr hnow HY.out (by rw [HYL.out]; omega)
                rw [HYL.out] at k1 k2
                have hsa := HSA4.out
                generalize encV Y = E2 at *
                have hE2 : (E2 == E2) = true := by simp
                have N1 := hide trivial
                have K1 := hide k1
                have K2 := hide k2
                have HSA5 := hide (HS.out.below HB.out)
                clear k1 k2 hsa hin hnow ro rn
                go_wp2_with (first | (go_at_call 23; refine (K1.out _).mono ?_; rintro e w6 ⟨rfl, rfl⟩) | (go_at_call 24; clear N1; refine K2.out.mono ?_; rintro e w7 ⟨rfl, hB7⟩) | (go_at_call 24; refine (KR.out _ _ _ (HSA5.out.below hB7)).mono ?_; rintro e w8 ⟨rfl, hB8⟩))
                go_ret
                exact ⟨rfl, bseq (bseq HB.out hB7) hB8⟩
  | some ad =>
    have hc := hcells ad rfl
    have HC := hide hc
    clear hc hcells hnil hn
    go_enter Try.func5, Try.ntmps5
    go_wp2_with (at_builtin; refine wpList_append_own _ rfl _ _ 26 rfl w.heap.size 21 i0 (.int .i32 0) 1 4 Try.underlying26 hi hz0 hz1 hz2 rfl (by omega) (.slice none 0 0) 0 [] rfl (World.ownsRow_nil _ _ _ _) ad m cap (zs.map R32) rfl (by rw [List.length_map, HM.out]; omega) HC.out HON.out (by unfold maxLen; omega) (by omega) (Nat.le_refl _) ?_; intro v1 w1 ho1 hg1 _)
    rw [Nat.zero_add, List.nil_append] at ho1
    have hB1 : Below w.heap.size w w1 := (Below.refl _ w).grown hg1 (Nat.le_refl _) (fun k e => by cases e)
    have HB1 := hide hB1
    have HO1 := hide ho1
    clear hB1 ho1 hg1
    go_loopw [3, 4] (fun v q wr => ∃ j : Nat, j ≤ 5 ∧ q = .int .i64 j ∧ Row wr w.heap.size v (m + j) ((zs ++ marks j).map R32) ∧ Below w.heap.size w wr) (fun _ q _ => 5 - (intOf q).toNat)
    case atStart => exact ⟨0, by omega, rfl, by simpa [marks] using HO1.out, HB1.out⟩
    case round =>
      clear HB1 HO1
      obtain ⟨j, hj, rfl, ro, hB⟩ := hrel
      by_cases hlt : j < 5
      · have hlt' : (j : Int) < 5 := by omega
        have HB := hide hB
        have hBs := hB.size
        clear hB
        go_wp2_with (at_builtin; refine wpList_append_own _ rfl _ _ 26 rfl w.heap.size 21 i0 (.int .i32 0) 1 4 Try.underlying26 hi hz0 hz1 hz2 rfl (by omega) _ _ _ rfl (ro.alloc _) ⟨_, 0, none⟩ 1 1 [.int .i32 (9728 + (j : Int))] rfl rfl (cell_one_new _ _ _) (by simp [Value.oneCell']) (by unfold maxLen; omega) (by omega) (by simp; omega) ?_; intro v2 w2 ho2 hg2 _)
        go_roundw
        case rel =>
          refine ⟨j + 1, by omega, by go_num, ?_, ?_⟩
          · rw [marks_succ, ← List.append_assoc, List.map_append]
            exact ho2
          · exact (HB.out.alloc HB.out.size _).grown hg2 (by simp; omega) (fun k e => (ro.lt k e).1)
        case measure => simp [intOf]; omega
      · have hj5 : j = 5 := by omega
        subst hj5
        obtain ⟨g, cg, rfl, lg1, lg2⟩ := owns_slice ro (by omega)
        have hcap : m + 5 ≤ cg := by
          rcases ro.2 with ⟨h0, _⟩ | ⟨g', c', cur, hv, _, _, hc', _⟩
          · cases h0
          · cases hv; exact hc'
        have hcap' : ((m : Int) + 5) ≤ (cg : Int) := by omega
        have hsl : SlU wr (some ⟨g, 0, none⟩) zs := by
          refine .inr ⟨g, 0, rfl, lg2, fun i x hx => ?_⟩
          have hi' := (List.getElem?_eq_some_iff.1 hx).1
          rw [HM.out] at hi'
          rw [Nat.zero_add, ro.cellAt i (by omega), List.map_append, List.getElem?_append_left (by rw [List.length_map, HM.out]; exact hi')]
          exact map_at zs i x hx
        have HSL := hide hsl
        have RO := hide ro
        have HB := hide hB
        have hBs := hB.size
        clear hsl ro hB
        go_wp2_with (go_at_call 23; refine (KE.out _ _ _ HSL.out).mono ?_; rintro e w3 ⟨rfl, rfl⟩)
        generalize hE : encV zs = E at *
        have hEE : (E == E) = true := by simp
        have HE := hide hE
        clear hE
        obtain ⟨W0, hW0⟩ : ∃ W, W = w3 := ⟨_, rfl⟩
        subst hW0
        go_loopw [7] (fun q wq => ∃ i n : Nat, i ≤ m + 5 ∧ q = .int .i64 i ∧ wq = W0.drewN n) (fun q _ => m + 5 - (intOf q).toNat)
        case atStart => exact ⟨0, 0, by omega, rfl, rfl⟩
        case round =>
          obtain ⟨i, n, hi5, rfl, rfl⟩ := hrel
          by_cases hlt2 : i < m + 5
          · have hl2 : (i : Int) < (m : Int) + 5 := by omega
            have hl2' : (i : Int) < ((m + 5 : Nat) : Int) := by omega
            by_cases him : i < m
            · have him' : (i : Int) < (m : Int) := by omega
              have hge : decide ((m : Int) ≤ (i : Int)) = false := decide_eq_false (by omega)
              have hgeN : decide (m ≤ i) = false := decide_eq_false (by omega)
              obtain ⟨z, hzi⟩ : ∃ z, zs[i]? = some z := ⟨_, List.getElem?_eq_getElem (by rw [HM.out]; exact him)⟩
              have c1 : W0.cell? ⟨g, i, none⟩ = some (.int .i32 z) := by
                rw [RO.out.cellAt i (by omega), List.map_append, List.getElem?_append_left (by rw [List.length_map, HM.out]; exact him)]
                exact map_at zs i z hzi
              obtain ⟨b, off, hb, hlb, hc⟩ : ∃ b off, ad = ⟨b, off, none⟩ ∧ b < w.heap.size ∧ ∀ (i : Nat) (x : Int), zs[i]? = some x → w.cell? ⟨b, off + i, none⟩ = some (.int .i32 x) := by
                rcases HS.out with h | ⟨b, off, hb, hlb, hc⟩
                · rw [h] at hzi; simp at hzi
                · cases hb; exact ⟨b, off, rfl, hlb, hc⟩
              subst hb
              have c2 : W0.cell? ⟨b, off + i, none⟩ = some (.int .i32 z) := (HB.out.cell (p := ⟨b, off + i, none⟩) hlb).trans (hc i z hzi)
              clear hc
              have hzz : (z != z) = false := by simp
              clear hzi
              go_wp2
              go_quiet (fail)
              go_wp2
              go_roundw
              case rel => exact ⟨i + 1, n + nq, by omega, by go_num, by simp⟩
              case measure => simp [intOf]; omega
            · have him' : (m : Int) ≤ (i : Int) := by omega
              have hlf : decide ((i : Int) < (m : Int)) = false := decide_eq_false (by omega)
              have c1 : W0.cell? ⟨g, i, none⟩ = some (.int .i32 (9728 + (i : Int) - (m : Int))) := by
                rw [RO.out.cellAt i (by omega), List.map_append, List.getElem?_append_right (by rw [List.length_map, HM.out]; omega), List.length_map, HM.out]
                have : (marks 5)[i - m]? = some (9728 + ((i - m : Nat) : Int)) := by unfold marks; rw [List.getElem?_map, List.getElem?_range (by omega)]; rfl
                rw [map_at _ _ _ this]
                congr 2; omega
              have hb9 : 9728 + (i : Int) - (m : Int) ≤ 10000 := by omega
              have hb8 : 0 ≤ 9728 + (i : Int) - (m : Int) := by omega
              have hzz : (9728 + (i : Int) - (m : Int) != 9728 + (i : Int) - (m : Int)) = false := by simp
              go_wp2
              go_quiet (fail)
              go_wp2
              go_roundw
              case rel => exact ⟨i + 1, n + nq, by omega, by go_num, by simp⟩
              case measure => simp [intOf]; omega
          · have hl2 : (m : Int) + 5 ≤ (i : Int) := by omega
            have hl2' : ((m + 5 : Nat) : Int) ≤ (i : Int) := by omega
            have hB2 : Below W0.heap.size W0 (W0.drewN n) := below_drewN (Below.refl _ _) n
            have hsa : SlU (W0.drewN n) (some ad) zs := (HS.out.below HB.out).below hB2
            have HSA := hide hsa
            have HB3 := hide (bseq HB.out hB2)
            have RO3 := hide (ownsRow_below RO.out hB2)
            clear hsa hB2
            generalize W0.drewN n = W3 at *
            go_wp2_with (go_at_call 24; refine (KR.out _ _ _ HSA.out).mono ?_; rintro e w4 ⟨rfl, hB4⟩)
            have HB4 := hide (bseq HB3.out hB4)
            have RO4 := hide (ownsRow_below RO3.out hB4)
            have HSA4 := hide (HSA.out.below hB4)
            have lg4 := (RO4.out.lt g rfl).2
            have hB4s := HB4.out.size
            clear HB3 RO3 HSA hB4 HSL RO HB
            obtain ⟨P0, hP0⟩ : ∃ P, P = w4.heap.size := ⟨_, rfl⟩
            have lgP : g < P0 := by omega
            have hP0' : P0 ≤ w4.heap.size := by omega
            have hwP : w.heap.size ≤ P0 := by omega
            clear hP0 lg4
            go_loopw [8, 9] (fun v q wq => ∃ (k : Nat) (Y : List Int), k ≤ m ∧ Y.length = k ∧ q = .int .i64 k ∧ (∀ y ∈ Y, -2147483648 ≤ y ∧ y ≤ 2147483647) ∧ Row wq w.heap.size (.slice (some ⟨g, 0, none⟩) (m + 5) cg) (m + 5) ((Y ++ zs.drop k ++ marks 5).map R32) ∧
                Row wq P0 v k (Y.map R32) ∧ Below w.heap.size w wq ∧ P0 ≤ wq.heap.size) (fun _ q _ => m - (intOf q).toNat)
            case atStart => exact ⟨0, [], by omega, rfl, rfl, by simp, by simpa using RO4.out, World.ownsRow_nil _ _ _ _, HB4.out, hP0'⟩
            case round =>
              clear HB4 RO4 hP0' hB4s
              obtain ⟨k, Y, hk, hYl, rfl, hY, ro, rn, hB, hPs⟩ := hrel
              have HYL := hide hYl
              have HY := hide hY
              have HB := hide hB
              clear hYl hY hB
              by_cases hlt3 : k < m
              · have hl3 : (k : Int) < (m : Int) := by omega
                obtain ⟨z, hzk⟩ : ∃ z, zs[k]? = some z := ⟨_, List.getElem?_eq_getElem (by rw [HM.out]; exact hlt3)⟩
                have c1 : wr.cell? ⟨g, k, none⟩ = some (.int .i32 z) := by
                  rw [ro.cellAt k (by omega), List.append_assoc, List.map_append, List.getElem?_append_right (by rw [List.length_map, HYL.out]; exact Nat.le_refl _), List.length_map, HYL.out, Nat.sub_self, List.map_append, List.getElem?_append_left (by rw [List.length_map, List.length_drop, HM.out]; omega)]
                  exact map_at _ _ _ (by rw [List.getElem?_drop, Nat.add_zero]; exact hzk)
                have f1 := ro.frozenAt k
                obtain ⟨X, hX⟩ : ∃ X, X = bits BinOp.xor IntKind.i32 z (wrap32 ((k : Int) + 1)) := ⟨_, rfl⟩
                have hXb : -2147483648 ≤ X ∧ X ≤ 2147483647 := by
                  rw [hX]
                  have := wrap_within IntKind.i32 (BitVec.toNat (BitVec.ofInt IntKind.i32.bits z ^^^ BitVec.ofInt IntKind.i32.bits (wrap32 ((k : Int) + 1))))
                  exact this
                have st := (ro.stored k (.int .i32 X)).1
                have est : ((Y ++ zs.drop k ++ marks 5).map R32).set k (.int .i32 X) = ((Y ++ [X]) ++ zs.drop (k + 1) ++ marks 5).map R32 := by
                  have hd : zs.drop k = z :: zs.drop (k + 1) := by
                    obtain ⟨h1, h2⟩ := List.getElem?_eq_some_iff.1 hzk
                    rw [List.drop_eq_getElem_cons h1, h2]
                  rw [hd]
                  simp only [List.map_append, List.map_cons, List.append_assoc]
                  rw [List.set_append_right _ _ (by rw [List.length_map, HYL.out]; exact Nat.le_refl _), List.length_map, HYL.out, Nat.sub_self]
                  rfl
                rw [est] at st
                have rn2 := ownsRow_setCell_other rn (a := ⟨g, k, none⟩) (by intro e; have := (rn.lt g e).1; omega) (.int .i32 X)
                have hB2 := HB.out.setCell (p := ⟨g, k, none⟩) (by show w.heap.size ≤ g; omega) (.int .i32 X)
                have hsz2 : (wr.setCell ⟨g, k, none⟩ (.int .i32 X)).heap.size = wr.heap.size := by simp
                have ST := hide st
                have HB2 := hide hB2
                clear st est hB2 hzk
                subst hX
                go_wp2_with (at_builtin; refine wpList_append_own _ rfl _ _ 26 rfl P0 21 i0 (.int .i32 0) 1 4 Try.underlying26 hi hz0 hz1 hz2 rfl (by omega) _ _ _ rfl (rn2.alloc _) ⟨_, 0, none⟩ 1 1 [.int .i32 (bits BinOp.xor IntKind.i32 z (wrap32 ((k : Int) + 1)))] rfl rfl (cell_one_set _ _ _ _ _) (by simp [Value.oneCell']) (by unfold maxLen; omega) (by omega) (by simp; omega) ?_; intro v5 w5 ho5 hg5 _)
                have hs5 := hg5.size
                rw [World.size_alloc] at hs5
                go_roundw
                case rel =>
                  refine ⟨k + 1, Y ++ [bits BinOp.xor IntKind.i32 z (wrap32 ((k : Int) + 1))], by omega, by rw [List.length_append, HYL.out]; rfl, by go_num, ?_, ?_, ?_, ?_, by omega⟩
                  · intro y hy
                    rw [List.mem_append] at hy
                    rcases hy with hy | hy
                    · exact HY.out y hy
                    · rw [List.mem_singleton] at hy
                      rw [hy]
                      exact hXb
                  · exact (ST.out.alloc _).kept hg5 (Or.inr (by intro e; have := (rn.lt g e.symm).1; omega))
                  · rw [List.map_append]
                    exact ho5
                  · exact (HB2.out.alloc HB2.out.size _).grown hg5 (by simp; omega) (fun j e => by have := (rn.lt j e).1; omega)
                case measure => simp [intOf]; omega
              · have hkm : m = k := by omega
                subst hkm
                have hin : SlU wr (some ⟨g, 0, none⟩) Y := by
                  refine .inr ⟨g, 0, rfl, (ro.lt g rfl).2, fun i x hx => ?_⟩
                  have hi' := (List.getElem?_eq_some_iff.1 hx).1
                  rw [HYL.out] at hi'
                  rw [Nat.zero_add, ro.cellAt i (by omega), List.append_assoc, List.map_append, List.getElem?_append_left (by rw [List.length_map, HYL.out]; exact hi')]
                  exact map_at Y i x hx
                obtain ⟨an, cn, rfl, hnow⟩ := slu_len rn HYL.out
                have k1 := fun c => encode_any' (some ⟨g, 0, none⟩) c Y wr hin
                have k2 := refEncode_any an cn Y wr hnow HY.out (by rw [HYL.out]; omega)
                rw [HYL.out] at k1 k2
                have hsa := HSA4.out
                generalize encV Y = E2 at *
                have hE2 : (E2 == E2) = true := by simp
                have N1 := hide trivial
                have K1 := hide k1
                have K2 := hide k2
                have HSA5 := hide (HS.out.below HB.out)
                clear k1 k2 hsa hin hnow ro rn
                go_wp2_with (first | (go_at_call 23; refine (K1.out _).mono ?_; rintro e w6 ⟨rfl, rfl⟩) | (go_at_call 24; clear N1; refine K2.out.mono ?_; rintro e w7 ⟨rfl, hB7⟩) | (go_at_call 24; refine (KR.out _ _ _ (HSA5.out.below hB7)).mono ?_; rintro e w8 ⟨rfl, hB8⟩))
                go_ret
                exact ⟨rfl, bseq (bseq HB.out hB7) hB8⟩
end utfEncodes
end Go.Proofs.Ytmidlkjdjohbdaa
