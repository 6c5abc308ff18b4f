/- The document's Quote. -/
import Derived.Test.YtmhbhpjpnmggkaaDoorSRHex
import Derived.Test.YtmhbhpjpnmggkaaDoorSFmt
import Derived.Lib.AppendStr
import Derived.Lib.ConvBytes
import Derived.OwnWalk
import Derived.Maps.AppendAt
namespace Go.Proofs.YtmhbhpjpnmggkaaDoor
open Go.RowKit Go.Shelf
set_option linter.unusedVariables false

theorem Tryd.info8s : (Tryd.prog.info? 5).map (fun i => (i.zero, i.size, i.bytes)) = some (some (.int .u8 0), 1, 1) := by kernel_rfl
/-- A row of bytes that the call owns. -/
def Row8 (W : World) (base : Nat) (v : Value) (l : List UInt8) : Prop := W.ownsRow base 5 1 v l.length (Lib.byteCells l)
theorem Row8.below {W W' : World} {base : Nat} {v : Value} {l : List UInt8} (h : Row8 W base v l) (hb : Below W.heap.size W W') : Row8 W' base v l := by
  refine ⟨h.1, ?_⟩
  rcases h.2 with h2 | ⟨g, cap, cur, hv, hg, hh, r⟩
  · exact .inl h2
  · exact .inr ⟨g, cap, cur, hv, hg, (hb.block g (Array.getElem?_eq_some_iff.1 hh).1).trans hh, r⟩
theorem Row8.more {W : World} {base : Nat} {v : Value} {l m : List UInt8} {U : ByteArray} (hU : U.data.toList = m) (h : W.ownsRow base 5 1 v (l.length + U.size) (Lib.byteCells l ++ Lib.strCells U)) : Row8 W base v (l ++ m) := by
  unfold Row8
  rw [Lib.byteCells_append, List.length_append, ← hU]
  have e : U.data.toList.length = U.size := by simp
  rw [e]
  exact h
theorem addr_addS (g j : Nat) : (⟨g, 0, none⟩ : Addr).add j = ⟨g, j, none⟩ := by
  simp [Addr.add]
  intro h; exact h.symm
theorem run_string_own8 (w : World) (base : Nat) (v : Value) (l : List UInt8) (h : Row8 w base v l) : (convert 48 9 v).run Tryd.prog w = .ok (.string ⟨l.toArray⟩) w := by
  rcases h.2 with ⟨rfl, h0⟩ | ⟨g, cap, cur, rfl, _, hg, hn, _, hs, hc⟩
  · have hl : l = [] := List.eq_nil_of_length_eq_zero h0
    subst hl
    rw [run_convert_bytes_string w 48 9 5 none 0 0 Tryd.underlying48 Tryd.underlying5 Tryd.underlying9]
    rfl
  · refine run_convert_bytes_back (P := Tryd.prog) w 48 9 5 ⟨g, 0, none⟩ cap l Tryd.underlying48 Tryd.underlying5 Tryd.underlying9 (fun j hj => ?_)
    have h1 : (Lib.byteCells l)[j]? = some (.int .u8 (l[j].toNat : Int)) := by unfold Lib.byteCells; rw [List.getElem?_map, List.getElem?_eq_getElem hj]; rfl
    rw [← hc, List.getElem?_take, if_pos (by omega)] at h1
    rw [addr_addS g j]
    simp only [World.cell?, hg]
    simpa using h1
theorem row8_one (w : World) (c : UInt8) : Row8 (w.alloc (.cells #[.int .u8 (c.toNat : Int)] 5)) w.heap.size (.slice (some ⟨w.heap.size, 0, none⟩) 1 1) [c] :=
  ⟨rfl, .inr ⟨w.heap.size, 1, #[.int .u8 (c.toNat : Int)], rfl, Nat.le_refl _, heap_alloc_new w _, Nat.le_refl _, by unfold maxLen; decide, rfl, rfl⟩⟩
theorem wp_append_str {P : Program} (w : World) {o : Oper} {a : Act} {K : Act → World → Prop} {Q : Exit → Act → World → Prop} (sl x : Operand) (t u : TypeId)
    (ho : o.op = .call { callee := .builtin .append, args := #[sl, x], argTypes := #[t, u] })
    (base : Nat) (e : TypeId) (i : TypeInfo) (ht : P.underlying t = some (.slice e)) (hu : P.underlying u = some .string) (hi : P.info? e = some i) (hz : i.zero = some (.int .u8 0))
    (hsize : i.size = 1) (hby : i.bytes = 1)
    (v : Value) (n : Nat) (xs : List Value) (hs : a.eval sl = v) (hown : w.ownsRow base e 1 v n xs) (s : ByteArray) (hx : a.eval x = .string s)
    (h63 : n + s.size ≤ maxLen) (hbytes : n + s.size ≤ 140737488355328) (hbase : base ≤ w.heap.size)
    (h : ∀ v' w', w'.ownsRow base e 1 v' (n + s.size) (xs ++ Lib.strCells s) → w.grownBy w' v.ownBlock → K (a.put o.dst v') w') : o.wp P a w K Q := by
  obtain ⟨v', w', hr, h2, h3, h4⟩ := Lib.run_append_own_string (P := P) w base t u o.type e i ht hu hi hz hsize hby v n xs hown s h63 hbytes hbase
  unfold Oper.wp execOp
  simp only [ho, resolve, invoke, builtin, Sem.run_bind, Sem.run_pure, Result.andThen_ok, List.map_toArray, List.map_cons, List.map_nil, hs, hx, hr]
  exact h v' w' h2 h3
theorem cell1_new (W : World) (t : TypeId) (a : Value) : ∀ j u, [a][j]? = some u → (W.alloc (.cells #[a] t)).cell? ((⟨W.heap.size, 0, none⟩ : Addr).add j) = some u := by
  intro j u hj
  match j, hj with
  | 0, hj => simp at hj; subst hj; simp [Addr.add]
  | n + 1, hj => simp at hj
theorem Row8.more1 {W : World} {base : Nat} {v : Value} {l : List UInt8} (c : UInt8) (h : W.ownsRow base 5 1 v (l.length + 1) (Lib.byteCells l ++ [.int .u8 (c.toNat : Int)])) : Row8 W base v (l ++ [c]) := by
  unfold Row8
  rw [Lib.byteCells_append, List.length_append]
  exact h
set_option maxRecDepth 100000 in
set_option maxHeartbeats 8000000 in
theorem rquote_any (s : ByteArray) (w : World) (hs : s.size ≤ 17592186044416) (hZ : LaidZ w) :
    Calls Tryd.prog 8 #[.string s] w fun e w' => e = .returned (.string ⟨(34 :: (qo (bl s) ++ [34])).toArray⟩) ∧ Below w.heap.size w w' := by
  have HZ := hide hZ
  obtain ⟨i0, hi, hz0, hz1, hz2⟩ := info_parts Tryd.info8s
  have hr0 := row8_one w 34
  have hb0 : Below w.heap.size w (w.alloc (.cells #[.int .u8 ((34 : UInt8).toNat : Int)] 5)) := (Below.refl _ _).alloc (Nat.le_refl _) _
  have HR0 := hide hr0
  have HB0 := hide hb0
  clear hZ hr0 hb0
  go_enter Tryd.func8, Tryd.ntmps8
  go_wp2_with (fail)
  go_loopw [3, 4] (fun v at_ wr => ∃ (q : Nat) (acc : List UInt8), at_ = .int .i64 (q : Int) ∧ q ≤ s.size ∧ acc ++ qo ((bl s).drop q) = 34 :: qo (bl s) ∧ acc.length ≤ 1 + 4 * q ∧ Row8 wr w.heap.size v acc ∧ Below w.heap.size w wr) (fun _ at_ _ => s.size - (intOf at_).toNat)
  case atStart => exact ⟨0, [34], rfl, Nat.zero_le _, rfl, by decide, HR0.out, HB0.out⟩
  case round =>
    clear HR0 HB0
    obtain ⟨q, acc, rfl, hqs, hacc, hlen, hrow, hB⟩ := hrel
    have HROW := hide hrow
    have HB := hide hB
    have HACC := hide hacc
    have hBw := hB.size
    clear hrow hB hacc
    by_cases hlt : q < s.size
    · have hltI : (q : Int) < (s.size : Int) := by omega
      have hne := bl_drop_ne hlt
      have hxp : 0 < (s.extract q s.size).size := by rw [ByteArray.size_extract]; omega
      have kc := fun W => rchar_any (s.extract q s.size) W hxp (by rw [ByteArray.size_extract]; omega)
      rw [bl_from] at kc
      have hm1 := cw_pos ((bl s).drop q)
      have hm2 := cw_len _ hne
      have hm4 := cw_le4 ((bl s).drop q)
      rw [List.length_drop, bl_len] at hm2
      have hqc := qo_cons hne
      have hpl := piece_le hne
      have hr0 := @rune_0 ((bl s).drop q)
      rw [List.drop_drop] at hqc
      have hhd : ((bl s).drop q).headD 0 = s[q]'hlt := by
        rw [List.drop_eq_getElem_cons (by rw [bl_len]; exact hlt)]
        rfl
      have hx : (s.extract q (q + cw ((bl s).drop q))).data.toList = ((bl s).drop q).take (cw ((bl s).drop q)) := by
        have := bl_extract s q (q + cw ((bl s).drop q))
        rw [Nat.add_sub_cancel_left] at this
        exact this
      have hpc : piece ((bl s).drop q) = if W ((bl s).drop q) ≠ 0 ∧ plainK (rune ((bl s).drop q) : Int) = true then ((bl s).drop q).take (cw ((bl s).drop q)) else escB (rune ((bl s).drop q)) (s[q]'hlt) := by unfold piece; rw [hhd]
      rw [hqc] at HACC
      have KC := hide kc
      have HX := hide hx
      have HPC := hide hpc
      generalize piece ((bl s).drop q) = P at *
      generalize W ((bl s).drop q) = wl at *
      generalize rune ((bl s).drop q) = r at *
      generalize cw ((bl s).drop q) = m at *
      have hmI : (q : Int) + (m : Int) ≤ (s.size : Int) := by omega
      have hm4I : (m : Int) ≤ 4 := by omega
      have hm1I : 1 ≤ (m : Int) := by omega
      have hnx : (acc ++ P) ++ qo ((bl s).drop (q + m)) = 34 :: qo (bl s) := by rw [List.append_assoc]; exact HACC.out
      have hnl : (acc ++ P).length ≤ 1 + 4 * (q + m) := by rw [List.length_append]; omega
      have HNX := hide hnx
      clear kc hqc hhd hx hpc hne hnx hxp
      by_cases hr34 : r = 34
      · have hP := HPC.out
        rw [if_neg (fun h => absurd h.2 (by rw [hr34]; decide))] at hP
        rw [hr34] at hP KC
        have hP2 : P = [92, 34] := hP
        have hl2 : (⟨#[92, 34]⟩ : ByteArray).size = 2 := rfl
        clear hP hr34 HX HPC
        go_wp2_with (first | (go_at_call 25; refine (KC.out _).mono ?_; rintro e x ⟨rfl, hbx⟩; have HR := hide (HROW.out.below hbx); have HBX := hide (bseq HB.out hbx); have hwx := hbx.size; clear hbx) | (at_builtin; refine Lib.wpList_append_own_string _ rfl _ _ 48 9 rfl w.heap.size 5 i0 Tryd.underlying48 Tryd.underlying9 hi hz0 hz1 hz2 _ acc.length (Lib.byteCells acc) rfl HR.out ⟨#[92, 34]⟩ rfl (by simp only [maxLen]; omega) (by omega) (by omega) ?_; intro v' w4 hown' hgrow' _))
        have hb4 : Below w.heap.size w w4 := HBX.out.grown hgrow' HBX.out.size (fun j e => (HR.out.lt j e).1)
        have hrow4 : Row8 w4 w.heap.size v' (acc ++ P) := Row8.more (by rw [hP2]) hown'
        go_roundw
        case rel => exact ⟨q + m, acc ++ P, by go_num, by omega, HNX.out, hnl, hrow4, hb4⟩
        case measure => simp [intOf]; omega
      by_cases hr92 : r = 92
      · have hP := HPC.out
        rw [if_neg (fun h => absurd h.2 (by rw [hr92]; decide))] at hP
        rw [hr92] at hP KC
        have hP2 : P = [92, 92] := hP
        have hl2 : (⟨#[92, 92]⟩ : ByteArray).size = 2 := rfl
        clear hP hr92 HX HPC
        go_wp2_with (first | (go_at_call 25; refine (KC.out _).mono ?_; rintro e x ⟨rfl, hbx⟩; have HR := hide (HROW.out.below hbx); have HBX := hide (bseq HB.out hbx); have hwx := hbx.size; clear hbx) | (at_builtin; refine Lib.wpList_append_own_string _ rfl _ _ 48 9 rfl w.heap.size 5 i0 Tryd.underlying48 Tryd.underlying9 hi hz0 hz1 hz2 _ acc.length (Lib.byteCells acc) rfl HR.out ⟨#[92, 92]⟩ rfl (by simp only [maxLen]; omega) (by omega) (by omega) ?_; intro v' w4 hown' hgrow' _))
        have hb4 : Below w.heap.size w w4 := HBX.out.grown hgrow' HBX.out.size (fun j e => (HR.out.lt j e).1)
        have hrow4 : Row8 w4 w.heap.size v' (acc ++ P) := Row8.more (by rw [hP2]) hown'
        go_roundw
        case rel => exact ⟨q + m, acc ++ P, by go_num, by omega, HNX.out, hnl, hrow4, hb4⟩
        case measure => simp [intOf]; omega
      by_cases hr10 : r = 10
      · have hP := HPC.out
        rw [if_neg (fun h => absurd h.2 (by rw [hr10]; decide))] at hP
        rw [hr10] at hP KC
        have hP2 : P = [92, 110] := hP
        have hl2 : (⟨#[92, 110]⟩ : ByteArray).size = 2 := rfl
        clear hP hr10 HX HPC
        go_wp2_with (first | (go_at_call 25; refine (KC.out _).mono ?_; rintro e x ⟨rfl, hbx⟩; have HR := hide (HROW.out.below hbx); have HBX := hide (bseq HB.out hbx); have hwx := hbx.size; clear hbx) | (at_builtin; refine Lib.wpList_append_own_string _ rfl _ _ 48 9 rfl w.heap.size 5 i0 Tryd.underlying48 Tryd.underlying9 hi hz0 hz1 hz2 _ acc.length (Lib.byteCells acc) rfl HR.out ⟨#[92, 110]⟩ rfl (by simp only [maxLen]; omega) (by omega) (by omega) ?_; intro v' w4 hown' hgrow' _))
        have hb4 : Below w.heap.size w w4 := HBX.out.grown hgrow' HBX.out.size (fun j e => (HR.out.lt j e).1)
        have hrow4 : Row8 w4 w.heap.size v' (acc ++ P) := Row8.more (by rw [hP2]) hown'
        go_roundw
        case rel => exact ⟨q + m, acc ++ P, by go_num, by omega, HNX.out, hnl, hrow4, hb4⟩
        case measure => simp [intOf]; omega
      by_cases hr13 : r = 13
      · have hP := HPC.out
        rw [if_neg (fun h => absurd h.2 (by rw [hr13]; decide))] at hP
        rw [hr13] at hP KC
        have hP2 : P = [92, 114] := hP
        have hl2 : (⟨#[92, 114]⟩ : ByteArray).size = 2 := rfl
        clear hP hr13 HX HPC
        go_wp2_with (first | (go_at_call 25; refine (KC.out _).mono ?_; rintro e x ⟨rfl, hbx⟩; have HR := hide (HROW.out.below hbx); have HBX := hide (bseq HB.out hbx); have hwx := hbx.size; clear hbx) | (at_builtin; refine Lib.wpList_append_own_string _ rfl _ _ 48 9 rfl w.heap.size 5 i0 Tryd.underlying48 Tryd.underlying9 hi hz0 hz1 hz2 _ acc.length (Lib.byteCells acc) rfl HR.out ⟨#[92, 114]⟩ rfl (by simp only [maxLen]; omega) (by omega) (by omega) ?_; intro v' w4 hown' hgrow' _))
        have hb4 : Below w.heap.size w w4 := HBX.out.grown hgrow' HBX.out.size (fun j e => (HR.out.lt j e).1)
        have hrow4 : Row8 w4 w.heap.size v' (acc ++ P) := Row8.more (by rw [hP2]) hown'
        go_roundw
        case rel => exact ⟨q + m, acc ++ P, by go_num, by omega, HNX.out, hnl, hrow4, hb4⟩
        case measure => simp [intOf]; omega
      by_cases hr9 : r = 9
      · have hP := HPC.out
        rw [if_neg (fun h => absurd h.2 (by rw [hr9]; decide))] at hP
        rw [hr9] at hP KC
        have hP2 : P = [92, 116] := hP
        have hl2 : (⟨#[92, 116]⟩ : ByteArray).size = 2 := rfl
        clear hP hr9 HX HPC
        go_wp2_with (first | (go_at_call 25; refine (KC.out _).mono ?_; rintro e x ⟨rfl, hbx⟩; have HR := hide (HROW.out.below hbx); have HBX := hide (bseq HB.out hbx); have hwx := hbx.size; clear hbx) | (at_builtin; refine Lib.wpList_append_own_string _ rfl _ _ 48 9 rfl w.heap.size 5 i0 Tryd.underlying48 Tryd.underlying9 hi hz0 hz1 hz2 _ acc.length (Lib.byteCells acc) rfl HR.out ⟨#[92, 116]⟩ rfl (by simp only [maxLen]; omega) (by omega) (by omega) ?_; intro v' w4 hown' hgrow' _))
        have hb4 : Below w.heap.size w w4 := HBX.out.grown hgrow' HBX.out.size (fun j e => (HR.out.lt j e).1)
        have hrow4 : Row8 w4 w.heap.size v' (acc ++ P) := Row8.more (by rw [hP2]) hown'
        go_roundw
        case rel => exact ⟨q + m, acc ++ P, by go_num, by omega, HNX.out, hnl, hrow4, hb4⟩
        case measure => simp [intOf]; omega
      have n34 : ((r : Int) == 34) = false := beq_eq_false_iff_ne.2 (by omega)
      have n92 : ((r : Int) == 92) = false := beq_eq_false_iff_ne.2 (by omega)
      have n10 : ((r : Int) == 10) = false := beq_eq_false_iff_ne.2 (by omega)
      have n13 : ((r : Int) == 13) = false := beq_eq_false_iff_ne.2 (by omega)
      have n9 : ((r : Int) == 9) = false := beq_eq_false_iff_ne.2 (by omega)
      by_cases hxx : wl = 0
      · have hr := hr0 hxx
        have hP : P = [92, 120, hexD ((s[q]'hlt).toNat / 16), hexD ((s[q]'hlt).toNat % 16)] := by
          have := HPC.out
          rw [if_neg (fun h => h.1 hxx)] at this
          rw [this]
          rw [hr]; rfl
        have hdw : decide (wl ≠ 0) = false := decide_eq_false (fun h => h hxx)
        rw [hdw] at KC
        clear HX HPC hr0 hxx hdw hr
        go_wp2_with (first | (go_at_call 25; refine (KC.out _).mono ?_; rintro e x ⟨rfl, hbx⟩; have HR := hide (HROW.out.below hbx); have HBX := hide (bseq HB.out hbx); have hwx := hbx.size; clear hbx))
        refine Go.wp_mono (Q := noPanS _) ?_ noPanS_le
        refine wp_region_held_drew (S := fun W => True) (by kernel_rfl) trivial (fun hS => ?_)
        refine wpAnyH_take (i := 0) (v := u3) rfl (by kernel_rfl) (by kernel_rfl) (by kernel_rfl) (fun _ _ _ h => h) (Or.inl ⟨by kernel_rfl, fun w' hw => by go_simp⟩) trivial ?_
        refine wpAnyH_take (i := 2) (v := .string s) rfl (by kernel_rfl) (by kernel_rfl) (by kernel_rfl) (fun _ _ _ h => h) (Or.inl ⟨by kernel_rfl, fun w' hw => by go_simp⟩) trivial ?_
        refine wpAnyH_take (i := 3) (v := .int .i64 (q : Int)) rfl (by kernel_rfl) (by kernel_rfl) (by kernel_rfl) (fun _ _ _ h => h) (Or.inl ⟨by kernel_rfl, fun w' hw => by go_simp⟩) trivial ?_
        refine wpAnyH_take (i := 4) (v := .int .u8 ((s[q]'hlt).toNat : Int)) rfl (by kernel_rfl) (by kernel_rfl) (by kernel_rfl) (fun _ _ _ h => h) (Or.inl ⟨by kernel_rfl, fun w' hw => by go_simp⟩) trivial ?_
        have hsx : w.heap.size ≤ x.heap.size := HBX.out.size
        refine wpAnyH_ready (rs := [1]) (by kernel_rfl) (by simp) ?_
        refine AllReadyH.cons rfl (fun K hK => ?_) AllReadyH.nil
        · rw [if_pos (by kernel_rfl)]
          refine wp_append_str _ _ _ 48 9 rfl w.heap.size 5 i0 Tryd.underlying48 Tryd.underlying9 hi hz0 hz1 hz2 u3 acc.length (Lib.byteCells acc) rfl HR.out (⟨#[92, 120]⟩ : ByteArray) rfl (by simp only [maxLen]; have : (⟨#[92, 120]⟩ : ByteArray).size = 2 := rfl; omega) (by have : (⟨#[92, 120]⟩ : ByteArray).size = 2 := rfl; omega) hsx ?_
          intro v1 w1 hown1 hgrow1
          have hb1 : Below w.heap.size w w1 := HBX.out.drew.grown hgrow1 HBX.out.size (fun j e => (HR.out.lt j e).1)
          have hs1 : w.heap.size ≤ w1.heap.size := hb1.size
          refine hK.out _ _ trivial (fun _ => ?_)
          clear hK K
          refine wpAnyH_ready (rs := [5]) (by kernel_rfl) (by simp) ?_
          refine AllReadyH.cons rfl (fun K hK => ?_) AllReadyH.nil
          rw [if_pos (by kernel_rfl)]
          go_simp
          go_wp2_with (go_at_call 26; refine (rhex_any _ _).mono ?_; rintro e y ⟨rfl, n, hy⟩)
          subst hy
          refine hK.out _ _ trivial (fun _ => ?_)
          clear hK K
          refine wpAnyH_ready (rs := [6]) (by kernel_rfl) (by simp) ?_
          refine AllReadyH.cons rfl (fun K hK => ?_) AllReadyH.nil
          rw [if_pos (by kernel_rfl)]
          refine wp_append_str _ _ _ 48 9 rfl w.heap.size 5 i0 Tryd.underlying48 Tryd.underlying9 hi hz0 hz1 hz2 v1 (acc.length + 2) (Lib.byteCells acc ++ Lib.strCells ⟨#[92, 120]⟩) rfl hown1 (⟨#[hexD ((s[q]'hlt).toNat / 16), hexD ((s[q]'hlt).toNat % 16)]⟩ : ByteArray) rfl (by simp only [maxLen]; have : (⟨#[hexD ((s[q]'hlt).toNat / 16), hexD ((s[q]'hlt).toNat % 16)]⟩ : ByteArray).size = 2 := rfl; omega) (by have : (⟨#[hexD ((s[q]'hlt).toNat / 16), hexD ((s[q]'hlt).toNat % 16)]⟩ : ByteArray).size = 2 := rfl; omega) hs1 ?_
          intro v' w4 hown' hgrow'
          have hb4 : Below w.heap.size w w4 := (below_drewN hb1 _).grown hgrow' hs1 (fun j e => (World.ownsRow.lt hown1 j e).1)
          refine hK.out _ _ trivial (fun _ => ?_)
          clear hK K
          refine wpAnyH_take (i := 7) (v := v') rfl (by kernel_rfl) (by kernel_rfl) (by kernel_rfl) (fun _ _ _ h => h) (Or.inl ⟨by kernel_rfl, fun w' hw => by go_simp⟩) trivial ?_
          refine wpAnyH_done (by kernel_rfl) (noPanS_normal ?_) _
          try simp only [Act.put, List.getElem_toArray, List.getElem_cons_zero, List.getElem_cons_succ, List.setIfInBounds_toArray, List.set_cons_zero, List.set_cons_succ]
          have hrow4 : Row8 w4 w.heap.size v' (acc ++ P) := by
            have e1 := Row8.more (m := [92, 120]) rfl hown1
            have e2 : Row8 w4 w.heap.size v' ((acc ++ [92, 120]) ++ [hexD ((s[q]'hlt).toNat / 16), hexD ((s[q]'hlt).toNat % 16)]) := by
              refine Row8.more (l := acc ++ [92, 120]) (U := ⟨#[hexD ((s[q]'hlt).toNat / 16), hexD ((s[q]'hlt).toNat % 16)]⟩) rfl ?_
              rw [Lib.byteCells_append, List.length_append]
              exact hown'
            rw [hP]
            rw [List.append_assoc] at e2
            exact e2
          go_wp2_with (fail)
          go_roundw
          case rel => exact ⟨q + m, acc ++ P, by go_num, by omega, HNX.out, hnl, hrow4, hb4⟩
          case measure => simp [intOf]; omega
      have hdw : decide (wl ≠ 0) = true := decide_eq_true hxx
      clear hr0
      by_cases h32 : r < 32
      · have hP : P = [92, 120, hexD ((s[q]'hlt).toNat / 16), hexD ((s[q]'hlt).toNat % 16)] := by
          have := HPC.out
          rw [if_neg (fun h => by have h2 := h.2; unfold plainK at h2; rw [decide_eq_false (show ¬ (32 : Int) ≤ (r : Int) by omega), Bool.and_false] at h2; exact absurd h2 (by decide))] at this
          rw [this]
          unfold escB; rw [if_neg hr34, if_neg hr92, if_neg hr10, if_neg hr13, if_neg hr9, if_neg (by omega), if_neg (by omega), if_neg (by omega)]
        have h32I : (r : Int) < 32 := by omega
        rw [hdw] at KC
        clear HX HPC hxx hdw
        go_wp2_with (first | (go_at_call 25; refine (KC.out _).mono ?_; rintro e x ⟨rfl, hbx⟩; have HR := hide (HROW.out.below hbx); have HBX := hide (bseq HB.out hbx); have hwx := hbx.size; clear hbx))
        refine Go.wp_mono (Q := noPanS _) ?_ noPanS_le
        refine wp_region_held_drew (S := fun W => True) (by kernel_rfl) trivial (fun hS => ?_)
        refine wpAnyH_take (i := 0) (v := u3) rfl (by kernel_rfl) (by kernel_rfl) (by kernel_rfl) (fun _ _ _ h => h) (Or.inl ⟨by kernel_rfl, fun w' hw => by go_simp⟩) trivial ?_
        refine wpAnyH_take (i := 2) (v := .string s) rfl (by kernel_rfl) (by kernel_rfl) (by kernel_rfl) (fun _ _ _ h => h) (Or.inl ⟨by kernel_rfl, fun w' hw => by go_simp⟩) trivial ?_
        refine wpAnyH_take (i := 3) (v := .int .i64 (q : Int)) rfl (by kernel_rfl) (by kernel_rfl) (by kernel_rfl) (fun _ _ _ h => h) (Or.inl ⟨by kernel_rfl, fun w' hw => by go_simp⟩) trivial ?_
        refine wpAnyH_take (i := 4) (v := .int .u8 ((s[q]'hlt).toNat : Int)) rfl (by kernel_rfl) (by kernel_rfl) (by kernel_rfl) (fun _ _ _ h => h) (Or.inl ⟨by kernel_rfl, fun w' hw => by go_simp⟩) trivial ?_
        have hsx : w.heap.size ≤ x.heap.size := HBX.out.size
        refine wpAnyH_ready (rs := [1]) (by kernel_rfl) (by simp) ?_
        refine AllReadyH.cons rfl (fun K hK => ?_) AllReadyH.nil
        · rw [if_pos (by kernel_rfl)]
          refine wp_append_str _ _ _ 48 9 rfl w.heap.size 5 i0 Tryd.underlying48 Tryd.underlying9 hi hz0 hz1 hz2 u3 acc.length (Lib.byteCells acc) rfl HR.out (⟨#[92, 120]⟩ : ByteArray) rfl (by simp only [maxLen]; have : (⟨#[92, 120]⟩ : ByteArray).size = 2 := rfl; omega) (by have : (⟨#[92, 120]⟩ : ByteArray).size = 2 := rfl; omega) hsx ?_
          intro v1 w1 hown1 hgrow1
          have hb1 : Below w.heap.size w w1 := HBX.out.drew.grown hgrow1 HBX.out.size (fun j e => (HR.out.lt j e).1)
          have hs1 : w.heap.size ≤ w1.heap.size := hb1.size
          refine hK.out _ _ trivial (fun _ => ?_)
          clear hK K
          refine wpAnyH_ready (rs := [5]) (by kernel_rfl) (by simp) ?_
          refine AllReadyH.cons rfl (fun K hK => ?_) AllReadyH.nil
          rw [if_pos (by kernel_rfl)]
          go_simp
          go_wp2_with (go_at_call 26; refine (rhex_any _ _).mono ?_; rintro e y ⟨rfl, n, hy⟩)
          subst hy
          refine hK.out _ _ trivial (fun _ => ?_)
          clear hK K
          refine wpAnyH_ready (rs := [6]) (by kernel_rfl) (by simp) ?_
          refine AllReadyH.cons rfl (fun K hK => ?_) AllReadyH.nil
          rw [if_pos (by kernel_rfl)]
          refine wp_append_str _ _ _ 48 9 rfl w.heap.size 5 i0 Tryd.underlying48 Tryd.underlying9 hi hz0 hz1 hz2 v1 (acc.length + 2) (Lib.byteCells acc ++ Lib.strCells ⟨#[92, 120]⟩) rfl hown1 (⟨#[hexD ((s[q]'hlt).toNat / 16), hexD ((s[q]'hlt).toNat % 16)]⟩ : ByteArray) rfl (by simp only [maxLen]; have : (⟨#[hexD ((s[q]'hlt).toNat / 16), hexD ((s[q]'hlt).toNat % 16)]⟩ : ByteArray).size = 2 := rfl; omega) (by have : (⟨#[hexD ((s[q]'hlt).toNat / 16), hexD ((s[q]'hlt).toNat % 16)]⟩ : ByteArray).size = 2 := rfl; omega) hs1 ?_
          intro v' w4 hown' hgrow'
          have hb4 : Below w.heap.size w w4 := (below_drewN hb1 _).grown hgrow' hs1 (fun j e => (World.ownsRow.lt hown1 j e).1)
          refine hK.out _ _ trivial (fun _ => ?_)
          clear hK K
          refine wpAnyH_take (i := 7) (v := v') rfl (by kernel_rfl) (by kernel_rfl) (by kernel_rfl) (fun _ _ _ h => h) (Or.inl ⟨by kernel_rfl, fun w' hw => by go_simp⟩) trivial ?_
          refine wpAnyH_done (by kernel_rfl) (noPanS_normal ?_) _
          try simp only [Act.put, List.getElem_toArray, List.getElem_cons_zero, List.getElem_cons_succ, List.setIfInBounds_toArray, List.set_cons_zero, List.set_cons_succ]
          have hrow4 : Row8 w4 w.heap.size v' (acc ++ P) := by
            have e1 := Row8.more (m := [92, 120]) rfl hown1
            have e2 : Row8 w4 w.heap.size v' ((acc ++ [92, 120]) ++ [hexD ((s[q]'hlt).toNat / 16), hexD ((s[q]'hlt).toNat % 16)]) := by
              refine Row8.more (l := acc ++ [92, 120]) (U := ⟨#[hexD ((s[q]'hlt).toNat / 16), hexD ((s[q]'hlt).toNat % 16)]⟩) rfl ?_
              rw [Lib.byteCells_append, List.length_append]
              exact hown'
            rw [hP]
            rw [List.append_assoc] at e2
            exact e2
          go_wp2_with (fail)
          go_roundw
          case rel => exact ⟨q + m, acc ++ P, by go_num, by omega, HNX.out, hnl, hrow4, hb4⟩
          case measure => simp [intOf]; omega
      have h32I : (32 : Int) ≤ (r : Int) := by omega
      by_cases h127 : r = 127
      · have hP : P = [92, 120, hexD ((s[q]'hlt).toNat / 16), hexD ((s[q]'hlt).toNat % 16)] := by
          have := HPC.out
          rw [if_neg (fun h => absurd h.2 (by rw [h127]; decide))] at this
          rw [this]
          rw [h127]; rfl
        have h127I : ((r : Int) == 127) = true := by rw [h127]; rfl
        rw [hdw] at KC
        clear HX HPC hxx hdw h127
        go_wp2_with (first | (go_at_call 25; refine (KC.out _).mono ?_; rintro e x ⟨rfl, hbx⟩; have HR := hide (HROW.out.below hbx); have HBX := hide (bseq HB.out hbx); have hwx := hbx.size; clear hbx))
        refine Go.wp_mono (Q := noPanS _) ?_ noPanS_le
        refine wp_region_held_drew (S := fun W => True) (by kernel_rfl) trivial (fun hS => ?_)
        refine wpAnyH_take (i := 0) (v := u3) rfl (by kernel_rfl) (by kernel_rfl) (by kernel_rfl) (fun _ _ _ h => h) (Or.inl ⟨by kernel_rfl, fun w' hw => by go_simp⟩) trivial ?_
        refine wpAnyH_take (i := 2) (v := .string s) rfl (by kernel_rfl) (by kernel_rfl) (by kernel_rfl) (fun _ _ _ h => h) (Or.inl ⟨by kernel_rfl, fun w' hw => by go_simp⟩) trivial ?_
        refine wpAnyH_take (i := 3) (v := .int .i64 (q : Int)) rfl (by kernel_rfl) (by kernel_rfl) (by kernel_rfl) (fun _ _ _ h => h) (Or.inl ⟨by kernel_rfl, fun w' hw => by go_simp⟩) trivial ?_
        refine wpAnyH_take (i := 4) (v := .int .u8 ((s[q]'hlt).toNat : Int)) rfl (by kernel_rfl) (by kernel_rfl) (by kernel_rfl) (fun _ _ _ h => h) (Or.inl ⟨by kernel_rfl, fun w' hw => by go_simp⟩) trivial ?_
        have hsx : w.heap.size ≤ x.heap.size := HBX.out.size
        refine wpAnyH_ready (rs := [1]) (by kernel_rfl) (by simp) ?_
        refine AllReadyH.cons rfl (fun K hK => ?_) AllReadyH.nil
        · rw [if_pos (by kernel_rfl)]
          refine wp_append_str _ _ _ 48 9 rfl w.heap.size 5 i0 Tryd.underlying48 Tryd.underlying9 hi hz0 hz1 hz2 u3 acc.length (Lib.byteCells acc) rfl HR.out (⟨#[92, 120]⟩ : ByteArray) rfl (by simp only [maxLen]; have : (⟨#[92, 120]⟩ : ByteArray).size = 2 := rfl; omega) (by have : (⟨#[92, 120]⟩ : ByteArray).size = 2 := rfl; omega) hsx ?_
          intro v1 w1 hown1 hgrow1
          have hb1 : Below w.heap.size w w1 := HBX.out.drew.grown hgrow1 HBX.out.size (fun j e => (HR.out.lt j e).1)
          have hs1 : w.heap.size ≤ w1.heap.size := hb1.size
          refine hK.out _ _ trivial (fun _ => ?_)
          clear hK K
          refine wpAnyH_ready (rs := [5]) (by kernel_rfl) (by simp) ?_
          refine AllReadyH.cons rfl (fun K hK => ?_) AllReadyH.nil
          rw [if_pos (by kernel_rfl)]
          go_simp
          go_wp2_with (go_at_call 26; refine (rhex_any _ _).mono ?_; rintro e y ⟨rfl, n, hy⟩)
          subst hy
          refine hK.out _ _ trivial (fun _ => ?_)
          clear hK K
          refine wpAnyH_ready (rs := [6]) (by kernel_rfl) (by simp) ?_
          refine AllReadyH.cons rfl (fun K hK => ?_) AllReadyH.nil
          rw [if_pos (by kernel_rfl)]
          refine wp_append_str _ _ _ 48 9 rfl w.heap.size 5 i0 Tryd.underlying48 Tryd.underlying9 hi hz0 hz1 hz2 v1 (acc.length + 2) (Lib.byteCells acc ++ Lib.strCells ⟨#[92, 120]⟩) rfl hown1 (⟨#[hexD ((s[q]'hlt).toNat / 16), hexD ((s[q]'hlt).toNat % 16)]⟩ : ByteArray) rfl (by simp only [maxLen]; have : (⟨#[hexD ((s[q]'hlt).toNat / 16), hexD ((s[q]'hlt).toNat % 16)]⟩ : ByteArray).size = 2 := rfl; omega) (by have : (⟨#[hexD ((s[q]'hlt).toNat / 16), hexD ((s[q]'hlt).toNat % 16)]⟩ : ByteArray).size = 2 := rfl; omega) hs1 ?_
          intro v' w4 hown' hgrow'
          have hb4 : Below w.heap.size w w4 := (below_drewN hb1 _).grown hgrow' hs1 (fun j e => (World.ownsRow.lt hown1 j e).1)
          refine hK.out _ _ trivial (fun _ => ?_)
          clear hK K
          refine wpAnyH_take (i := 7) (v := v') rfl (by kernel_rfl) (by kernel_rfl) (by kernel_rfl) (fun _ _ _ h => h) (Or.inl ⟨by kernel_rfl, fun w' hw => by go_simp⟩) trivial ?_
          refine wpAnyH_done (by kernel_rfl) (noPanS_normal ?_) _
          try simp only [Act.put, List.getElem_toArray, List.getElem_cons_zero, List.getElem_cons_succ, List.setIfInBounds_toArray, List.set_cons_zero, List.set_cons_succ]
          have hrow4 : Row8 w4 w.heap.size v' (acc ++ P) := by
            have e1 := Row8.more (m := [92, 120]) rfl hown1
            have e2 : Row8 w4 w.heap.size v' ((acc ++ [92, 120]) ++ [hexD ((s[q]'hlt).toNat / 16), hexD ((s[q]'hlt).toNat % 16)]) := by
              refine Row8.more (l := acc ++ [92, 120]) (U := ⟨#[hexD ((s[q]'hlt).toNat / 16), hexD ((s[q]'hlt).toNat % 16)]⟩) rfl ?_
              rw [Lib.byteCells_append, List.length_append]
              exact hown'
            rw [hP]
            rw [List.append_assoc] at e2
            exact e2
          go_wp2_with (fail)
          go_roundw
          case rel => exact ⟨q + m, acc ++ P, by go_num, by omega, HNX.out, hnl, hrow4, hb4⟩
          case measure => simp [intOf]; omega
      have n127 : ((r : Int) == 127) = false := beq_eq_false_iff_ne.2 (by omega)
      by_cases hr133 : r = 133
      · have hP : P = [92, 117, 123, 56, 53, 125] := by
          have := HPC.out
          rw [if_neg (fun h => absurd h.2 (by rw [hr133]; decide)), hr133] at this
          exact this
        have hdw : decide (wl ≠ 0) = true := decide_eq_true hxx
        have g1 : (32 : Int) ≤ (r : Int) := by omega
        have g2 : ((r : Int) == 127) = false := beq_eq_false_iff_ne.2 (by omega)
        have kp := fun W => rplain_any (r : Int) W
        rw [hdw] at KC
        rw [hr133] at KC kp g1 g2
        rw [show plainK ((133 : Nat) : Int) = false from by decide] at kp
        have KP := hide kp
        have KF := hide (fun W h => fmt_133 W h)
        have hl3 : (⟨#[92, 117, 123]⟩ : ByteArray).size = 3 := rfl
        have hl4 : (⟨#[56, 53]⟩ : ByteArray).size = 2 := rfl
        clear HX HPC hdw hxx kp n34 n92 n10 n13 n9
        have st0 := True.intro
        go_wp2_with (first | (go_at_call 25; refine (KC.out _).mono ?_; rintro e x ⟨rfl, hbx⟩; have HR := hide (HROW.out.below hbx); have HBX := hide (bseq HB.out hbx); have hwx := hbx.size; clear hbx) | (go_at_call 27; refine (KP.out _).mono ?_; rintro e x2 ⟨rfl, hx2⟩; subst hx2) | (at_builtin; refine Lib.wpList_append_own_string _ rfl _ _ 48 9 rfl w.heap.size 5 i0 Tryd.underlying48 Tryd.underlying9 hi hz0 hz1 hz2 _ acc.length (Lib.byteCells acc) rfl HR.out ⟨#[92, 117, 123]⟩ rfl (by simp only [maxLen]; omega) (by omega) (by clear st0; have := HBX.out.size; omega) ?_; intro v1 w1 hown1 hgrow1 _; have HR1 := hide (Row8.more (m := [92, 117, 123]) rfl hown1); have HB1 := hide (HBX.out.grown hgrow1 HBX.out.size (fun j e => (HR.out.lt j e).1)); clear st0 HR hown1 hgrow1) | (go_at_call 28; refine (KF.out _ (HZ.out.below HB1.out)).mono ?_; rintro e x3 ⟨rfl, hx3⟩; have HR2 := hide (HR1.out.below hx3); have HB2 := hide (bseq HB1.out hx3); clear HR1 hx3) | (at_builtin; refine Lib.wpList_append_own_string _ rfl _ _ 48 9 rfl w.heap.size 5 i0 Tryd.underlying48 Tryd.underlying9 hi hz0 hz1 hz2 v1 (List.length (α := UInt8) (acc ++ [92, 117, 123])) (Lib.byteCells (acc ++ [92, 117, 123])) rfl HR2.out ⟨#[56, 53]⟩ rfl (by simp only [maxLen, List.length_append, List.length_cons, List.length_nil]; omega) (by simp only [List.length_append, List.length_cons, List.length_nil]; omega) (by have := HB2.out.size; omega) ?_; intro v2 w2 hown2 hgrow2 _; have HR3 := hide (Row8.more (m := [56, 53]) rfl hown2); have HB3 := hide (HB2.out.grown hgrow2 HB2.out.size (fun j e => (HR2.out.lt j e).1)); have hs3 : w.heap.size ≤ w2.heap.size := HB3.out.size; clear HR2 hown2 hgrow2) | (at_builtin; refine wpList_append_own_at _ rfl _ _ 48 rfl w.heap.size 5 i0 (.int .u8 0) 1 1 Tryd.underlying48 hi hz0 hz1 hz2 rfl (by decide) v2 (List.length (α := UInt8) (acc ++ [92, 117, 123] ++ [56, 53])) (Lib.byteCells (acc ++ [92, 117, 123] ++ [56, 53])) rfl (HR3.out.alloc _) ⟨w2.heap.size, 0, none⟩ 1 1 [.int .u8 125] rfl rfl (cell1_new _ _ _) (by simp [Value.oneCell']) (by unfold maxLen; simp only [List.length_append, List.length_cons, List.length_nil]; omega) (by simp only [List.length_append, List.length_cons, List.length_nil]; omega) (by simp; omega) ?_; intro v' w4 hown' hgrow' _ _))
        have hb4 : Below w.heap.size w w4 := (HB3.out.alloc HB3.out.size _).grown hgrow' (by simp; omega) (fun j e => (HR3.out.lt j e).1)
        have hrow4 : Row8 w4 w.heap.size v' (acc ++ P) := by
          have e1 := Row8.more1 125 hown'
          rw [hP]
          simpa using e1
        subst hr133
        go_roundw
        case rel => exact ⟨q + m, acc ++ P, by go_num, by omega, HNX.out, hnl, hrow4, hb4⟩
        case measure => simp [intOf]; omega
      by_cases hr8232 : r = 8232
      · have hP : P = [92, 117, 123, 50, 48, 50, 56, 125] := by
          have := HPC.out
          rw [if_neg (fun h => absurd h.2 (by rw [hr8232]; decide)), hr8232] at this
          exact this
        have hdw : decide (wl ≠ 0) = true := decide_eq_true hxx
        have g1 : (32 : Int) ≤ (r : Int) := by omega
        have g2 : ((r : Int) == 127) = false := beq_eq_false_iff_ne.2 (by omega)
        have kp := fun W => rplain_any (r : Int) W
        rw [hdw] at KC
        rw [hr8232] at KC kp g1 g2
        rw [show plainK ((8232 : Nat) : Int) = false from by decide] at kp
        have KP := hide kp
        have KF := hide (fun W h => fmt_8232 W h)
        have hl3 : (⟨#[92, 117, 123]⟩ : ByteArray).size = 3 := rfl
        have hl4 : (⟨#[50, 48, 50, 56]⟩ : ByteArray).size = 4 := rfl
        clear HX HPC hdw hxx kp n34 n92 n10 n13 n9
        have st0 := True.intro
        go_wp2_with (first | (go_at_call 25; refine (KC.out _).mono ?_; rintro e x ⟨rfl, hbx⟩; have HR := hide (HROW.out.below hbx); have HBX := hide (bseq HB.out hbx); have hwx := hbx.size; clear hbx) | (go_at_call 27; refine (KP.out _).mono ?_; rintro e x2 ⟨rfl, hx2⟩; subst hx2) | (at_builtin; refine Lib.wpList_append_own_string _ rfl _ _ 48 9 rfl w.heap.size 5 i0 Tryd.underlying48 Tryd.underlying9 hi hz0 hz1 hz2 _ acc.length (Lib.byteCells acc) rfl HR.out ⟨#[92, 117, 123]⟩ rfl (by simp only [maxLen]; omega) (by omega) (by clear st0; have := HBX.out.size; omega) ?_; intro v1 w1 hown1 hgrow1 _; have HR1 := hide (Row8.more (m := [92, 117, 123]) rfl hown1); have HB1 := hide (HBX.out.grown hgrow1 HBX.out.size (fun j e => (HR.out.lt j e).1)); clear st0 HR hown1 hgrow1) | (go_at_call 28; refine (KF.out _ (HZ.out.below HB1.out)).mono ?_; rintro e x3 ⟨rfl, hx3⟩; have HR2 := hide (HR1.out.below hx3); have HB2 := hide (bseq HB1.out hx3); clear HR1 hx3) | (at_builtin; refine Lib.wpList_append_own_string _ rfl _ _ 48 9 rfl w.heap.size 5 i0 Tryd.underlying48 Tryd.underlying9 hi hz0 hz1 hz2 v1 (List.length (α := UInt8) (acc ++ [92, 117, 123])) (Lib.byteCells (acc ++ [92, 117, 123])) rfl HR2.out ⟨#[50, 48, 50, 56]⟩ rfl (by simp only [maxLen, List.length_append, List.length_cons, List.length_nil]; omega) (by simp only [List.length_append, List.length_cons, List.length_nil]; omega) (by have := HB2.out.size; omega) ?_; intro v2 w2 hown2 hgrow2 _; have HR3 := hide (Row8.more (m := [50, 48, 50, 56]) rfl hown2); have HB3 := hide (HB2.out.grown hgrow2 HB2.out.size (fun j e => (HR2.out.lt j e).1)); have hs3 : w.heap.size ≤ w2.heap.size := HB3.out.size; clear HR2 hown2 hgrow2) | (at_builtin; refine wpList_append_own_at _ rfl _ _ 48 rfl w.heap.size 5 i0 (.int .u8 0) 1 1 Tryd.underlying48 hi hz0 hz1 hz2 rfl (by decide) v2 (List.length (α := UInt8) (acc ++ [92, 117, 123] ++ [50, 48, 50, 56])) (Lib.byteCells (acc ++ [92, 117, 123] ++ [50, 48, 50, 56])) rfl (HR3.out.alloc _) ⟨w2.heap.size, 0, none⟩ 1 1 [.int .u8 125] rfl rfl (cell1_new _ _ _) (by simp [Value.oneCell']) (by unfold maxLen; simp only [List.length_append, List.length_cons, List.length_nil]; omega) (by simp only [List.length_append, List.length_cons, List.length_nil]; omega) (by simp; omega) ?_; intro v' w4 hown' hgrow' _ _))
        have hb4 : Below w.heap.size w w4 := (HB3.out.alloc HB3.out.size _).grown hgrow' (by simp; omega) (fun j e => (HR3.out.lt j e).1)
        have hrow4 : Row8 w4 w.heap.size v' (acc ++ P) := by
          have e1 := Row8.more1 125 hown'
          rw [hP]
          simpa using e1
        subst hr8232
        go_roundw
        case rel => exact ⟨q + m, acc ++ P, by go_num, by omega, HNX.out, hnl, hrow4, hb4⟩
        case measure => simp [intOf]; omega
      by_cases hr8233 : r = 8233
      · have hP : P = [92, 117, 123, 50, 48, 50, 57, 125] := by
          have := HPC.out
          rw [if_neg (fun h => absurd h.2 (by rw [hr8233]; decide)), hr8233] at this
          exact this
        have hdw : decide (wl ≠ 0) = true := decide_eq_true hxx
        have g1 : (32 : Int) ≤ (r : Int) := by omega
        have g2 : ((r : Int) == 127) = false := beq_eq_false_iff_ne.2 (by omega)
        have kp := fun W => rplain_any (r : Int) W
        rw [hdw] at KC
        rw [hr8233] at KC kp g1 g2
        rw [show plainK ((8233 : Nat) : Int) = false from by decide] at kp
        have KP := hide kp
        have KF := hide (fun W h => fmt_8233 W h)
        have hl3 : (⟨#[92, 117, 123]⟩ : ByteArray).size = 3 := rfl
        have hl4 : (⟨#[50, 48, 50, 57]⟩ : ByteArray).size = 4 := rfl
        clear HX HPC hdw hxx kp n34 n92 n10 n13 n9
        have st0 := True.intro
        go_wp2_with (first | (go_at_call 25; refine (KC.out _).mono ?_; rintro e x ⟨rfl, hbx⟩; have HR := hide (HROW.out.below hbx); have HBX := hide (bseq HB.out hbx); have hwx := hbx.size; clear hbx) | (go_at_call 27; refine (KP.out _).mono ?_; rintro e x2 ⟨rfl, hx2⟩; subst hx2) | (at_builtin; refine Lib.wpList_append_own_string _ rfl _ _ 48 9 rfl w.heap.size 5 i0 Tryd.underlying48 Tryd.underlying9 hi hz0 hz1 hz2 _ acc.length (Lib.byteCells acc) rfl HR.out ⟨#[92, 117, 123]⟩ rfl (by simp only [maxLen]; omega) (by omega) (by clear st0; have := HBX.out.size; omega) ?_; intro v1 w1 hown1 hgrow1 _; have HR1 := hide (Row8.more (m := [92, 117, 123]) rfl hown1); have HB1 := hide (HBX.out.grown hgrow1 HBX.out.size (fun j e => (HR.out.lt j e).1)); clear st0 HR hown1 hgrow1) | (go_at_call 28; refine (KF.out _ (HZ.out.below HB1.out)).mono ?_; rintro e x3 ⟨rfl, hx3⟩; have HR2 := hide (HR1.out.below hx3); have HB2 := hide (bseq HB1.out hx3); clear HR1 hx3) | (at_builtin; refine Lib.wpList_append_own_string _ rfl _ _ 48 9 rfl w.heap.size 5 i0 Tryd.underlying48 Tryd.underlying9 hi hz0 hz1 hz2 v1 (List.length (α := UInt8) (acc ++ [92, 117, 123])) (Lib.byteCells (acc ++ [92, 117, 123])) rfl HR2.out ⟨#[50, 48, 50, 57]⟩ rfl (by simp only [maxLen, List.length_append, List.length_cons, List.length_nil]; omega) (by simp only [List.length_append, List.length_cons, List.length_nil]; omega) (by have := HB2.out.size; omega) ?_; intro v2 w2 hown2 hgrow2 _; have HR3 := hide (Row8.more (m := [50, 48, 50, 57]) rfl hown2); have HB3 := hide (HB2.out.grown hgrow2 HB2.out.size (fun j e => (HR2.out.lt j e).1)); have hs3 : w.heap.size ≤ w2.heap.size := HB3.out.size; clear HR2 hown2 hgrow2) | (at_builtin; refine wpList_append_own_at _ rfl _ _ 48 rfl w.heap.size 5 i0 (.int .u8 0) 1 1 Tryd.underlying48 hi hz0 hz1 hz2 rfl (by decide) v2 (List.length (α := UInt8) (acc ++ [92, 117, 123] ++ [50, 48, 50, 57])) (Lib.byteCells (acc ++ [92, 117, 123] ++ [50, 48, 50, 57])) rfl (HR3.out.alloc _) ⟨w2.heap.size, 0, none⟩ 1 1 [.int .u8 125] rfl rfl (cell1_new _ _ _) (by simp [Value.oneCell']) (by unfold maxLen; simp only [List.length_append, List.length_cons, List.length_nil]; omega) (by simp only [List.length_append, List.length_cons, List.length_nil]; omega) (by simp; omega) ?_; intro v' w4 hown' hgrow' _ _))
        have hb4 : Below w.heap.size w w4 := (HB3.out.alloc HB3.out.size _).grown hgrow' (by simp; omega) (fun j e => (HR3.out.lt j e).1)
        have hrow4 : Row8 w4 w.heap.size v' (acc ++ P) := by
          have e1 := Row8.more1 125 hown'
          rw [hP]
          simpa using e1
        subst hr8233
        go_roundw
        case rel => exact ⟨q + m, acc ++ P, by go_num, by omega, HNX.out, hnl, hrow4, hb4⟩
        case measure => simp [intOf]; omega
      have hpk : plainK (r : Int) = true := by
        unfold plainK
        rw [n34, n92, n127, beq_eq_false_iff_ne.2 (by omega), beq_eq_false_iff_ne.2 (by omega), beq_eq_false_iff_ne.2 (by omega), decide_eq_true h32I]
        rfl
      have kp := fun W => rplain_any (r : Int) W
      rw [hpk] at kp
      have hP := HPC.out
      rw [if_pos ⟨hxx, hpk⟩, ← HX.out] at hP
      have hwl : acc.length + (s.extract q (q + m)).size ≤ 140737488355328 := by rw [ByteArray.size_extract]; omega
      rw [hdw] at KC
      have KP := hide kp
      have HP := hide hP
      clear HX HPC kp hpk hP hxx hdw
      go_wp2_with (first | (go_at_call 25; refine (KC.out _).mono ?_; rintro e x ⟨rfl, hbx⟩; have HR := hide (HROW.out.below hbx); have HBX := hide (bseq HB.out hbx); have hwx := hbx.size; clear hbx) | (go_at_call 27; refine (KP.out _).mono ?_; rintro e x2 ⟨rfl, hx2⟩; subst hx2) | (at_builtin; refine Lib.wpList_append_own_string _ rfl _ _ 48 9 rfl w.heap.size 5 i0 Tryd.underlying48 Tryd.underlying9 hi hz0 hz1 hz2 _ acc.length (Lib.byteCells acc) rfl HR.out (s.extract q (q + m)) rfl (by simp only [maxLen]; omega) (by omega) (by omega) ?_; intro v' w4 hown' hgrow' _))
      have hb4 : Below w.heap.size w w4 := HBX.out.grown hgrow' HBX.out.size (fun j e => (HR.out.lt j e).1)
      have hrow4 : Row8 w4 w.heap.size v' (acc ++ P) := Row8.more HP.out.symm hown'
      go_roundw
      case rel => exact ⟨q + m, acc ++ P, by go_num, by omega, HNX.out, hnl, hrow4, hb4⟩
      case measure => simp [intOf]; omega
    · have hltI : (s.size : Int) ≤ (q : Int) := by omega
      have hacc := HACC.out
      rw [List.drop_eq_nil_of_le (by rw [bl_len]; omega), qo_nil, List.append_nil] at hacc
      have HR := HROW
      go_wp2_with ((at_builtin; refine wpList_append_own_at _ rfl _ _ 48 rfl w.heap.size 5 i0 (.int .u8 0) 1 1 Tryd.underlying48 hi hz0 hz1 hz2 rfl (by decide) _ acc.length (Lib.byteCells acc) rfl (HR.out.alloc _) ⟨wr.heap.size, 0, none⟩ 1 1 [.int .u8 34] rfl rfl (cell1_new _ _ _) (by simp [Value.oneCell']) (by unfold maxLen; omega) (by omega) (by simp; omega) ?_; intro v' w4 hown' hgrow' _ _); have hcv := run_string_own8 _ _ _ _ (Row8.more1 34 hown'))
      go_ret
      refine ⟨rfl, ?_⟩
      exact (HB.out.alloc HB.out.size _).grown hgrow' (by simp; omega) (fun j e => (HROW.out.lt j e).1)
end Go.Proofs.YtmhbhpjpnmggkaaDoor
