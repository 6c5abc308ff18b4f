/- Package seek, the statements' own: written. -/
import Derived.Test.YtedfnppekikcpaaXGoAJoined
namespace Go.Proofs.Ytedfnppekikcpaa
open Go.RowKit Go.Shelf
set_option linter.unusedVariables false
set_option linter.unusedSimpArgs false

set_option maxHeartbeats 1000000 in
theorem rwithin_any (v n : Int) (w : World) (hn : 1 ≤ n) (hn2 : n ≤ 4611686018427387904) (hv : -9223372036854775808 ≤ v ∧ v ≤ 9223372036854775807) :
    Calls Try.prog 12 #[.int .i64 v, .int .i64 n] w fun e w' => (∃ r : Nat, (r : Int) < n ∧ e = .returned (.int .i64 r)) ∧ w' = w := by
  have hlt : v.tmod n < n := Int.tmod_lt_of_pos _ (by omega)
  have hgt : -n < v.tmod n := by
    have := Int.lt_tmod_of_pos v (b := n) (by omega)
    omega
  have hw : IntKind.i64.wrap (v.tmod n) = v.tmod n := by rw [IntKind.wrap_i64]; omega
  have hn0 : (n == 0) = false := by simp; omega
  obtain ⟨m, hm⟩ : ∃ m, v.tmod n = m := ⟨_, rfl⟩
  rw [hm] at hlt hgt hw
  by_cases h0 : m < 0
  · have hw2 : IntKind.i64.wrap (m + n) = m + n := by rw [IntKind.wrap_i64]; omega
    go_enter Try.func12, Try.ntmps12
    go_wp2
    go_ret
    exact ⟨⟨(m + n).toNat, by omega, by show Ending.returned (.int .i64 (m + n)) = _; rw [Int.toNat_of_nonneg (by omega)]⟩, rfl⟩
  · have h0 : 0 ≤ m := by omega
    go_enter Try.func12, Try.ntmps12
    go_wp2
    go_ret
    exact ⟨⟨m.toNat, by omega, by show Ending.returned (.int .i64 m) = _; rw [Int.toNat_of_nonneg (by omega)]⟩, rfl⟩
theorem bl_mkW (l : List UInt8) : bl ⟨l.toArray⟩ = l := by unfold bl; simp
/-- What written leaves: parts that may be, their text, and a row of them. -/
def WrnV (w w' : World) (e : Ending) : Prop := ∃ (bs : List Bt) (g : Option Addr) (c : Nat), bs.length ≤ 20 ∧ (∀ b ∈ bs, BtOk b) ∧ e = .returned (.tuple #[.string (outB bs), .slice g bs.length c]) ∧ SlBt w' g bs ∧ Below w.heap.size w w'
set_option maxRecDepth 100000 in
set_option maxHeartbeats 2000000 in
theorem written_any (xs : List Rb) (a : Option Addr) (cap : Nat) (w : World) (h : RowW 3 rbC w a xs) (hok : ∀ x ∈ xs, RbOk x) (hn : xs.length ≤ 9223372036854775807) :
    Calls Try.prog 4 #[.slice a xs.length cap] w fun e w' => WrnV w w' e := by
  obtain ⟨i0, hi, hz0, hz1, hz2⟩ := info_parts Try.infoBt
  have H := hide h
  have HOK := hide hok
  have hnI : (xs.length : Int) ≤ 9223372036854775807 := by omega
  clear h hok
  go_enter Try.func4, Try.ntmps4
  go_wp2_with (fail)
  go_loopw [4, 5, 6] (fun o v i wr => ∃ (bs : List Bt) (V : Value), i = .int .i64 (bs.length : Int) ∧ o = .string (outB bs) ∧ V = v ∧ bs.length ≤ 20 ∧ bs.length ≤ xs.length ∧ (∀ b ∈ bs, BtOk b) ∧ wr.ownsRow w.heap.size 42 3 v bs.length (bs.flatMap bitC) ∧ Below w.heap.size w wr) (fun _ _ i _ => 20 - (intOf i).toNat)
  case atStart => exact ⟨[], _, rfl, rfl, rfl, by simp, by simp, fun b hb => absurd hb (by simp), World.ownsRow_nil _ _ _ _, Below.refl _ _⟩
  case round =>
    obtain ⟨bs, V, rfl, rfl, rfl, h20, hxs, hbo, hown, hB⟩ := hrel
    have hos := outB_size hbo
    have hsn := outB_snoc bs
    have HBO := hide hbo
    have HSN := hide hsn
    have HB := hide hB
    have HO := hide hown
    have HOLT : Hid (∀ g, V.ownBlock = some g → w.heap.size ≤ g) := fun g hg => (hown.lt g hg).1
    have hfl : (bs.flatMap bitC ++ []) = bs.flatMap bitC := List.append_nil _
    have HFL : Hid (∀ b, (bs ++ [b]).flatMap bitC = bs.flatMap bitC ++ bitC b) := fun b => by simp
    generalize hFL : bs.flatMap bitC = fl at *
    have HFIN := hide hFL
    generalize hO : outB bs = O at *
    have HO9 := hide hO
    clear hbo hsn hB hown hfl hO hFL
    by_cases hlt : bs.length < xs.length ∧ bs.length < 20
    · obtain ⟨hl1, hl2⟩ := hlt
      obtain ⟨x, hx⟩ : ∃ x, xs[bs.length]? = some x := ⟨_, List.getElem?_eq_getElem hl1⟩
      have hxo := HOK.out x (List.mem_of_getElem? hx)
      obtain ⟨g, off, rfl, hgl, hcl⟩ := H.out.at hx
      obtain ⟨r, any, how⟩ := x
      have c0 := (HB.out.cell hgl).trans (hcl 0 (.int .i32 r) rfl)
      have c1 := (HB.out.cell hgl).trans (hcl 1 (.bool any) rfl)
      have c2 := (HB.out.cell hgl).trans (hcl 2 (.int .i64 how) rfl)
      obtain ⟨⟨hr1, hr2⟩, hh1, hh2⟩ := hxo
      simp only at hr1 hr2 hh1 hh2
      have kw := fun W => rwithin_any how 4 W (by omega) (by omega) ⟨hh1, hh2⟩
      have km := fun W => may_any r W hr1 hr2
      have KW := hide kw
      have KM := hide km
      generalize hk : bs.length = k at *
      have HK := hide hk
      have hl1I : (k : Int) < (xs.length : Int) := by omega
      have hl2I : (k : Int) < 20 := by omega
      simp only [Nat.add_zero] at c0
      clear hx hgl hcl kw km hk
      go_upto_region 7 with (fail)
      have hB1 : Below w.heap.size w (wr.alloc (.cells #[.int .i32 r, .bool any, .int .i64 how] 42)) := HB.out.alloc HB.out.size _
      have b1 := heap_alloc_new wr (.cells #[.int .i32 r, .bool any, .int .i64 how] 42)
      have ho1 := HO.out.alloc (.cells #[.int .i32 r, .bool any, .int .i64 how] 42)
      have hlt1 : ∀ g, V.ownBlock = some g → g < wr.heap.size := fun g hg => by
        rcases HO.out.2 with ⟨hv0, _⟩ | ⟨g2, cap2, cur2, hv0, _, hg2, _⟩
        · rw [hv0] at hg; simp [Value.ownBlock] at hg
        · rw [hv0] at hg
          obtain rfl : g2 = g := by simpa [Value.ownBlock] using hg
          exact (Array.getElem?_eq_some_iff.1 hg2).1
      have hBs := HB.out.size
      have HLT1 := hide hlt1
      have HBS := hide hBs
      obtain ⟨B, hBB⟩ : ∃ B, wr.heap.size = B := ⟨_, rfl⟩
      rw [hBB] at b1 hlt1
      have HBB := hide hBB
      rw [hBB] at HLT1 HBS ⊢
      clear hlt1 hBs HB HO c0 c1 c2
      generalize wr.alloc (.cells #[.int .i32 r, .bool any, .int .i64 how] 42) = X at *
      have HB := hide hB1
      have HO := hide ho1
      obtain ⟨d0, d1, d2, df⟩ := box3_facts b1
      have H1 := hide b1
      clear hB1 ho1 b1 hBB HBB
      go_upto_region 8 with (go_at_call 12; refine (KW.out _).mono ?_; rintro e x1 ⟨⟨how', hhw, rfl⟩, hx⟩; obtain rfl : X = x1 := hx.symm; clear hx)
      have h2 : (X.setCell ⟨B, 2, none⟩ (.int .i64 (how' : Int))).heap[B]? = some (.cells #[.int .i32 r, .bool any, .int .i64 (how' : Int)] 42 (0, 0)) := heap_setCell_same X B 2 _ _ _ H1.out
      have hB2 : Below w.heap.size w (X.setCell ⟨B, 2, none⟩ (.int .i64 (how' : Int))) := HB.out.setCell (p := ⟨B, 2, none⟩) HBS.out _
      have ho2 : (X.setCell ⟨B, 2, none⟩ (.int .i64 (how' : Int))).ownsRow w.heap.size 42 3 V k fl := HO.out.kept (grownX_set X B 2 _) (.inr (fun e => by have := HLT1.out B e; omega))
      have h5 : how' < 4 := by omega
      clear d0 d1 d2 df H1 HB HO hhw
      generalize X.setCell ⟨B, 2, none⟩ (.int .i64 (how' : Int)) = Y at *
      obtain ⟨d0, d1, d2, df⟩ := box3_facts h2
      have H1 := hide h2
      have HB := hide hB2
      have HO := hide ho2
      have HH4 := hide h5
      clear h2 hB2 ho2 h5
      have fin : ∀ (r2 : Int) (Z : World), mayB r2 = true → (∃ b : Bt, b = (r2, any, how')) := fun r2 Z _ => ⟨_, rfl⟩
      clear fin
      by_cases hm : mayB r = true
      · rw [hm] at KM
        have HM := hide hm
        clear hm
        go_upto_region 10 with (go_at_call 13; refine (KM.out _).mono ?_; rintro e x1 ⟨rfl, hx⟩; obtain rfl : Y = x1 := hx.symm; clear hx)
        clear KM hr1 hr2 KW
        have HE := hide (encode_list r)
        have hes : (Utf8.encode r).size ≤ 4 := encode_size r
        have kq := fun W => xquote_any (Utf8.encode r) W (by omega)
        have hbe : bl (Utf8.encode r) = Lib.encodeRune r := by rw [HE.out]; exact bl_mkW _
        rw [hbe] at kq
        have hq4 : (⟨(xqo (Lib.encodeRune r)).toArray⟩ : ByteArray).size ≤ 8 := by
          have h1 := xqo_len (Lib.encodeRune r)
          have h2 : (Lib.encodeRune r).length ≤ 4 := by rw [← hbe, bl_len]; exact hes
          simp [ByteArray.size]
          omega
        generalize hqq : (⟨(xqo (Lib.encodeRune r)).toArray⟩ : ByteArray) = q at *
        have HQ := hide hqq
        have KQ := hide kq
        clear hes kq hbe hqq
        cases any with
        | true =>
          go_upto_region 13 with (fail)
          obtain ⟨Z, hZ⟩ : ∃ Z, Z = Y := ⟨_, rfl⟩
          rw [← hZ] at H1 HB HO ⊢
          have H1Z := hide H1.out
          have HBZ := hide HB.out
          have HOZ := hide HO.out
          have hsz2 : (O ++ (⟨#[46]⟩ : ByteArray)).size ≤ 101 := by rw [ByteArray.size_append]; show O.size + 1 ≤ 101; omega
          clear hZ H1 HB HO
          clear d0 d1 d2 df
          rcases (show how' = 0 ∨ how' = 1 ∨ how' = 2 ∨ how' = 3 by have := HH4.out; omega) with rfl | rfl | rfl | rfl
          · have hzz : (Z.alloc (.cells #[.string ⟨#[]⟩, .string ⟨#[63]⟩, .string ⟨#[42]⟩, .string ⟨#[43]⟩] 9)).heap[B]? = some (.cells #[.int .i32 r, .bool true, .int .i64 ((0 : Nat) : Int)] 42 (0, 0)) := (((Below.refl _ Z).alloc (Nat.le_refl _) _).block B (Array.getElem?_eq_some_iff.1 H1Z.out).1).trans H1Z.out
            obtain ⟨z0, z1, z2, zf⟩ := box3_facts hzz
            clear z0 z1 zf
            go_upto_region 14 with (fail)
            clear z2
            obtain ⟨L, hL⟩ : ∃ L, L = Z.alloc (.cells #[.string ⟨#[]⟩, .string ⟨#[63]⟩, .string ⟨#[42]⟩, .string ⟨#[43]⟩] 9) := ⟨_, rfl⟩
            rw [← hL]
            have hBL : Below w.heap.size w L := by rw [hL]; exact HBZ.out.alloc HBZ.out.size _
            have hOL : L.ownsRow w.heap.size 42 3 V k fl := by rw [hL]; exact HOZ.out.alloc _
            have h1L : L.heap[B]? = some (.cells #[.int .i32 r, .bool true, .int .i64 ((0 : Nat) : Int)] 42 (0, 0)) := by rw [hL]; exact hzz
            obtain ⟨d0, d1, d2, df⟩ := box3_facts h1L
            have HBL := hide hBL
            have HOL := hide hOL
            clear hL hBL hOL h1L hzz
            go_wp2_with (at_builtin; refine wpList_append_own _ rfl _ _ 22 rfl w.heap.size 42 i0 (.agg #[.int .i32 0, .bool false, .int .i64 0]) 3 16 Try.underlying22 hi hz0 hz1 hz2 rfl (by omega) _ _ _ rfl (HOL.out.alloc _) ⟨L.heap.size, 0, none⟩ 1 1 [.int .i32 r, .bool true, .int .i64 ((0 : Nat) : Int)] rfl rfl (cell_three_new _ _ _ _ _) (by simp [Value.oneCell']) (by unfold maxLen; omega) (by omega) (by have := HBL.out.size; simp; omega) ?_; intro v' w2 hown' hgrow _; have HON := hide hown'; have HGR := hide hgrow; clear hown' hgrow)
            go_roundw
            case rel =>
              refine ⟨bs ++ [(r, true, 0)], _, by rw [List.length_append, HK.out]; rfl, ?_, rfl, by rw [List.length_append, HK.out, List.length_singleton]; omega, by rw [List.length_append, HK.out, List.length_singleton]; omega, fun c hc => ?_, ?_, ?_⟩
              · rw [HSN.out]
                first | rfl | (rw [← HQ.out]; rfl) | (refine congrArg Value.string ?_; apply ByteArray.ext; apply Array.toList_inj.1; first | (simp [atB, cB]; done) | (rw [← HQ.out]; simp [atB, cB]; done))
              · rcases List.mem_append.1 hc with g | g
                · exact HBO.out c g
                · obtain rfl := List.mem_singleton.1 g
                  exact ⟨HM.out, by show 0 < 4; decide⟩
              · rw [List.length_append, HK.out, HFL.out]
                exact HON.out
              · exact (HBL.out.alloc HBL.out.size _).grown HGR.out (by have := HBL.out.size; simp; omega) (fun j e => HOLT.out j e)
            case measure => simp [intOf]; omega
          · have hzz : (Z.alloc (.cells #[.string ⟨#[]⟩, .string ⟨#[63]⟩, .string ⟨#[42]⟩, .string ⟨#[43]⟩] 9)).heap[B]? = some (.cells #[.int .i32 r, .bool true, .int .i64 ((1 : Nat) : Int)] 42 (0, 0)) := (((Below.refl _ Z).alloc (Nat.le_refl _) _).block B (Array.getElem?_eq_some_iff.1 H1Z.out).1).trans H1Z.out
            obtain ⟨z0, z1, z2, zf⟩ := box3_facts hzz
            clear z0 z1 zf
            go_upto_region 14 with (fail)
            clear z2
            obtain ⟨L, hL⟩ : ∃ L, L = Z.alloc (.cells #[.string ⟨#[]⟩, .string ⟨#[63]⟩, .string ⟨#[42]⟩, .string ⟨#[43]⟩] 9) := ⟨_, rfl⟩
            rw [← hL]
            have hBL : Below w.heap.size w L := by rw [hL]; exact HBZ.out.alloc HBZ.out.size _
            have hOL : L.ownsRow w.heap.size 42 3 V k fl := by rw [hL]; exact HOZ.out.alloc _
            have h1L : L.heap[B]? = some (.cells #[.int .i32 r, .bool true, .int .i64 ((1 : Nat) : Int)] 42 (0, 0)) := by rw [hL]; exact hzz
            obtain ⟨d0, d1, d2, df⟩ := box3_facts h1L
            have HBL := hide hBL
            have HOL := hide hOL
            clear hL hBL hOL h1L hzz
            go_wp2_with (at_builtin; refine wpList_append_own _ rfl _ _ 22 rfl w.heap.size 42 i0 (.agg #[.int .i32 0, .bool false, .int .i64 0]) 3 16 Try.underlying22 hi hz0 hz1 hz2 rfl (by omega) _ _ _ rfl (HOL.out.alloc _) ⟨L.heap.size, 0, none⟩ 1 1 [.int .i32 r, .bool true, .int .i64 ((1 : Nat) : Int)] rfl rfl (cell_three_new _ _ _ _ _) (by simp [Value.oneCell']) (by unfold maxLen; omega) (by omega) (by have := HBL.out.size; simp; omega) ?_; intro v' w2 hown' hgrow _; have HON := hide hown'; have HGR := hide hgrow; clear hown' hgrow)
            go_roundw
            case rel =>
              refine ⟨bs ++ [(r, true, 1)], _, by rw [List.length_append, HK.out]; rfl, ?_, rfl, by rw [List.length_append, HK.out, List.length_singleton]; omega, by rw [List.length_append, HK.out, List.length_singleton]; omega, fun c hc => ?_, ?_, ?_⟩
              · rw [HSN.out]
                first | rfl | (rw [← HQ.out]; rfl) | (refine congrArg Value.string ?_; apply ByteArray.ext; apply Array.toList_inj.1; first | (simp [atB, cB]; done) | (rw [← HQ.out]; simp [atB, cB]; done))
              · rcases List.mem_append.1 hc with g | g
                · exact HBO.out c g
                · obtain rfl := List.mem_singleton.1 g
                  exact ⟨HM.out, by show 1 < 4; decide⟩
              · rw [List.length_append, HK.out, HFL.out]
                exact HON.out
              · exact (HBL.out.alloc HBL.out.size _).grown HGR.out (by have := HBL.out.size; simp; omega) (fun j e => HOLT.out j e)
            case measure => simp [intOf]; omega
          · have hzz : (Z.alloc (.cells #[.string ⟨#[]⟩, .string ⟨#[63]⟩, .string ⟨#[42]⟩, .string ⟨#[43]⟩] 9)).heap[B]? = some (.cells #[.int .i32 r, .bool true, .int .i64 ((2 : Nat) : Int)] 42 (0, 0)) := (((Below.refl _ Z).alloc (Nat.le_refl _) _).block B (Array.getElem?_eq_some_iff.1 H1Z.out).1).trans H1Z.out
            obtain ⟨z0, z1, z2, zf⟩ := box3_facts hzz
            clear z0 z1 zf
            go_upto_region 14 with (fail)
            clear z2
            obtain ⟨L, hL⟩ : ∃ L, L = Z.alloc (.cells #[.string ⟨#[]⟩, .string ⟨#[63]⟩, .string ⟨#[42]⟩, .string ⟨#[43]⟩] 9) := ⟨_, rfl⟩
            rw [← hL]
            have hBL : Below w.heap.size w L := by rw [hL]; exact HBZ.out.alloc HBZ.out.size _
            have hOL : L.ownsRow w.heap.size 42 3 V k fl := by rw [hL]; exact HOZ.out.alloc _
            have h1L : L.heap[B]? = some (.cells #[.int .i32 r, .bool true, .int .i64 ((2 : Nat) : Int)] 42 (0, 0)) := by rw [hL]; exact hzz
            obtain ⟨d0, d1, d2, df⟩ := box3_facts h1L
            have HBL := hide hBL
            have HOL := hide hOL
            clear hL hBL hOL h1L hzz
            go_wp2_with (at_builtin; refine wpList_append_own _ rfl _ _ 22 rfl w.heap.size 42 i0 (.agg #[.int .i32 0, .bool false, .int .i64 0]) 3 16 Try.underlying22 hi hz0 hz1 hz2 rfl (by omega) _ _ _ rfl (HOL.out.alloc _) ⟨L.heap.size, 0, none⟩ 1 1 [.int .i32 r, .bool true, .int .i64 ((2 : Nat) : Int)] rfl rfl (cell_three_new _ _ _ _ _) (by simp [Value.oneCell']) (by unfold maxLen; omega) (by omega) (by have := HBL.out.size; simp; omega) ?_; intro v' w2 hown' hgrow _; have HON := hide hown'; have HGR := hide hgrow; clear hown' hgrow)
            go_roundw
            case rel =>
              refine ⟨bs ++ [(r, true, 2)], _, by rw [List.length_append, HK.out]; rfl, ?_, rfl, by rw [List.length_append, HK.out, List.length_singleton]; omega, by rw [List.length_append, HK.out, List.length_singleton]; omega, fun c hc => ?_, ?_, ?_⟩
              · rw [HSN.out]
                first | rfl | (rw [← HQ.out]; rfl) | (refine congrArg Value.string ?_; apply ByteArray.ext; apply Array.toList_inj.1; first | (simp [atB, cB]; done) | (rw [← HQ.out]; simp [atB, cB]; done))
              · rcases List.mem_append.1 hc with g | g
                · exact HBO.out c g
                · obtain rfl := List.mem_singleton.1 g
                  exact ⟨HM.out, by show 2 < 4; decide⟩
              · rw [List.length_append, HK.out, HFL.out]
                exact HON.out
              · exact (HBL.out.alloc HBL.out.size _).grown HGR.out (by have := HBL.out.size; simp; omega) (fun j e => HOLT.out j e)
            case measure => simp [intOf]; omega
          · have hzz : (Z.alloc (.cells #[.string ⟨#[]⟩, .string ⟨#[63]⟩, .string ⟨#[42]⟩, .string ⟨#[43]⟩] 9)).heap[B]? = some (.cells #[.int .i32 r, .bool true, .int .i64 ((3 : Nat) : Int)] 42 (0, 0)) := (((Below.refl _ Z).alloc (Nat.le_refl _) _).block B (Array.getElem?_eq_some_iff.1 H1Z.out).1).trans H1Z.out
            obtain ⟨z0, z1, z2, zf⟩ := box3_facts hzz
            clear z0 z1 zf
            go_upto_region 14 with (fail)
            clear z2
            obtain ⟨L, hL⟩ : ∃ L, L = Z.alloc (.cells #[.string ⟨#[]⟩, .string ⟨#[63]⟩, .string ⟨#[42]⟩, .string ⟨#[43]⟩] 9) := ⟨_, rfl⟩
            rw [← hL]
            have hBL : Below w.heap.size w L := by rw [hL]; exact HBZ.out.alloc HBZ.out.size _
            have hOL : L.ownsRow w.heap.size 42 3 V k fl := by rw [hL]; exact HOZ.out.alloc _
            have h1L : L.heap[B]? = some (.cells #[.int .i32 r, .bool true, .int .i64 ((3 : Nat) : Int)] 42 (0, 0)) := by rw [hL]; exact hzz
            obtain ⟨d0, d1, d2, df⟩ := box3_facts h1L
            have HBL := hide hBL
            have HOL := hide hOL
            clear hL hBL hOL h1L hzz
            go_wp2_with (at_builtin; refine wpList_append_own _ rfl _ _ 22 rfl w.heap.size 42 i0 (.agg #[.int .i32 0, .bool false, .int .i64 0]) 3 16 Try.underlying22 hi hz0 hz1 hz2 rfl (by omega) _ _ _ rfl (HOL.out.alloc _) ⟨L.heap.size, 0, none⟩ 1 1 [.int .i32 r, .bool true, .int .i64 ((3 : Nat) : Int)] rfl rfl (cell_three_new _ _ _ _ _) (by simp [Value.oneCell']) (by unfold maxLen; omega) (by omega) (by have := HBL.out.size; simp; omega) ?_; intro v' w2 hown' hgrow _; have HON := hide hown'; have HGR := hide hgrow; clear hown' hgrow)
            go_roundw
            case rel =>
              refine ⟨bs ++ [(r, true, 3)], _, by rw [List.length_append, HK.out]; rfl, ?_, rfl, by rw [List.length_append, HK.out, List.length_singleton]; omega, by rw [List.length_append, HK.out, List.length_singleton]; omega, fun c hc => ?_, ?_, ?_⟩
              · rw [HSN.out]
                first | rfl | (rw [← HQ.out]; rfl) | (refine congrArg Value.string ?_; apply ByteArray.ext; apply Array.toList_inj.1; first | (simp [atB, cB]; done) | (rw [← HQ.out]; simp [atB, cB]; done))
              · rcases List.mem_append.1 hc with g | g
                · exact HBO.out c g
                · obtain rfl := List.mem_singleton.1 g
                  exact ⟨HM.out, by show 3 < 4; decide⟩
              · rw [List.length_append, HK.out, HFL.out]
                exact HON.out
              · exact (HBL.out.alloc HBL.out.size _).grown HGR.out (by have := HBL.out.size; simp; omega) (fun j e => HOLT.out j e)
            case measure => simp [intOf]; omega
        | false =>
          go_upto_region 13 with (go_at_call 14; refine (KQ.out _).mono ?_; rintro e x1 ⟨rfl, hb⟩; have HX := hide hb; clear hb)
          have h1z := (HX.out.block B (Array.getElem?_eq_some_iff.1 H1.out).1).trans H1.out
          have H1Z := hide h1z
          have HBZ := hide (bseq HB.out HX.out)
          have HOZ := hide (ownsRow_below HO.out HX.out)
          have hsz2 : (O ++ q).size ≤ 108 := by rw [ByteArray.size_append]; omega
          obtain ⟨Z, hZ⟩ : ∃ Z, Z = x1 := ⟨_, rfl⟩
          rw [← hZ] at H1Z HBZ HOZ ⊢
          clear hZ H1 HB HO h1z HX
          clear d0 d1 d2 df
          rcases (show how' = 0 ∨ how' = 1 ∨ how' = 2 ∨ how' = 3 by have := HH4.out; omega) with rfl | rfl | rfl | rfl
          · have hzz : (Z.alloc (.cells #[.string ⟨#[]⟩, .string ⟨#[63]⟩, .string ⟨#[42]⟩, .string ⟨#[43]⟩] 9)).heap[B]? = some (.cells #[.int .i32 r, .bool false, .int .i64 ((0 : Nat) : Int)] 42 (0, 0)) := (((Below.refl _ Z).alloc (Nat.le_refl _) _).block B (Array.getElem?_eq_some_iff.1 H1Z.out).1).trans H1Z.out
            obtain ⟨z0, z1, z2, zf⟩ := box3_facts hzz
            clear z0 z1 zf
            go_upto_region 14 with (fail)
            clear z2
            obtain ⟨L, hL⟩ : ∃ L, L = Z.alloc (.cells #[.string ⟨#[]⟩, .string ⟨#[63]⟩, .string ⟨#[42]⟩, .string ⟨#[43]⟩] 9) := ⟨_, rfl⟩
            rw [← hL]
            have hBL : Below w.heap.size w L := by rw [hL]; exact HBZ.out.alloc HBZ.out.size _
            have hOL : L.ownsRow w.heap.size 42 3 V k fl := by rw [hL]; exact HOZ.out.alloc _
            have h1L : L.heap[B]? = some (.cells #[.int .i32 r, .bool false, .int .i64 ((0 : Nat) : Int)] 42 (0, 0)) := by rw [hL]; exact hzz
            obtain ⟨d0, d1, d2, df⟩ := box3_facts h1L
            have HBL := hide hBL
            have HOL := hide hOL
            clear hL hBL hOL h1L hzz
            go_wp2_with (at_builtin; refine wpList_append_own _ rfl _ _ 22 rfl w.heap.size 42 i0 (.agg #[.int .i32 0, .bool false, .int .i64 0]) 3 16 Try.underlying22 hi hz0 hz1 hz2 rfl (by omega) _ _ _ rfl (HOL.out.alloc _) ⟨L.heap.size, 0, none⟩ 1 1 [.int .i32 r, .bool false, .int .i64 ((0 : Nat) : Int)] rfl rfl (cell_three_new _ _ _ _ _) (by simp [Value.oneCell']) (by unfold maxLen; omega) (by omega) (by have := HBL.out.size; simp; omega) ?_; intro v' w2 hown' hgrow _; have HON := hide hown'; have HGR := hide hgrow; clear hown' hgrow)
            go_roundw
            case rel =>
              refine ⟨bs ++ [(r, false, 0)], _, by rw [List.length_append, HK.out]; rfl, ?_, rfl, by rw [List.length_append, HK.out, List.length_singleton]; omega, by rw [List.length_append, HK.out, List.length_singleton]; omega, fun c hc => ?_, ?_, ?_⟩
              · rw [HSN.out]
                first | rfl | (rw [← HQ.out]; rfl) | (refine congrArg Value.string ?_; apply ByteArray.ext; apply Array.toList_inj.1; first | (simp [atB, cB]; done) | (rw [← HQ.out]; simp [atB, cB]; done))
              · rcases List.mem_append.1 hc with g | g
                · exact HBO.out c g
                · obtain rfl := List.mem_singleton.1 g
                  exact ⟨HM.out, by show 0 < 4; decide⟩
              · rw [List.length_append, HK.out, HFL.out]
                exact HON.out
              · exact (HBL.out.alloc HBL.out.size _).grown HGR.out (by have := HBL.out.size; simp; omega) (fun j e => HOLT.out j e)
            case measure => simp [intOf]; omega
          · have hzz : (Z.alloc (.cells #[.string ⟨#[]⟩, .string ⟨#[63]⟩, .string ⟨#[42]⟩, .string ⟨#[43]⟩] 9)).heap[B]? = some (.cells #[.int .i32 r, .bool false, .int .i64 ((1 : Nat) : Int)] 42 (0, 0)) := (((Below.refl _ Z).alloc (Nat.le_refl _) _).block B (Array.getElem?_eq_some_iff.1 H1Z.out).1).trans H1Z.out
            obtain ⟨z0, z1, z2, zf⟩ := box3_facts hzz
            clear z0 z1 zf
            go_upto_region 14 with (fail)
            clear z2
            obtain ⟨L, hL⟩ : ∃ L, L = Z.alloc (.cells #[.string ⟨#[]⟩, .string ⟨#[63]⟩, .string ⟨#[42]⟩, .string ⟨#[43]⟩] 9) := ⟨_, rfl⟩
            rw [← hL]
            have hBL : Below w.heap.size w L := by rw [hL]; exact HBZ.out.alloc HBZ.out.size _
            have hOL : L.ownsRow w.heap.size 42 3 V k fl := by rw [hL]; exact HOZ.out.alloc _
            have h1L : L.heap[B]? = some (.cells #[.int .i32 r, .bool false, .int .i64 ((1 : Nat) : Int)] 42 (0, 0)) := by rw [hL]; exact hzz
            obtain ⟨d0, d1, d2, df⟩ := box3_facts h1L
            have HBL := hide hBL
            have HOL := hide hOL
            clear hL hBL hOL h1L hzz
            go_wp2_with (at_builtin; refine wpList_append_own _ rfl _ _ 22 rfl w.heap.size 42 i0 (.agg #[.int .i32 0, .bool false, .int .i64 0]) 3 16 Try.underlying22 hi hz0 hz1 hz2 rfl (by omega) _ _ _ rfl (HOL.out.alloc _) ⟨L.heap.size, 0, none⟩ 1 1 [.int .i32 r, .bool false, .int .i64 ((1 : Nat) : Int)] rfl rfl (cell_three_new _ _ _ _ _) (by simp [Value.oneCell']) (by unfold maxLen; omega) (by omega) (by have := HBL.out.size; simp; omega) ?_; intro v' w2 hown' hgrow _; have HON := hide hown'; have HGR := hide hgrow; clear hown' hgrow)
            go_roundw
            case rel =>
              refine ⟨bs ++ [(r, false, 1)], _, by rw [List.length_append, HK.out]; rfl, ?_, rfl, by rw [List.length_append, HK.out, List.length_singleton]; omega, by rw [List.length_append, HK.out, List.length_singleton]; omega, fun c hc => ?_, ?_, ?_⟩
              · rw [HSN.out]
                first | rfl | (rw [← HQ.out]; rfl) | (refine congrArg Value.string ?_; apply ByteArray.ext; apply Array.toList_inj.1; first | (simp [atB, cB]; done) | (rw [← HQ.out]; simp [atB, cB]; done))
              · rcases List.mem_append.1 hc with g | g
                · exact HBO.out c g
                · obtain rfl := List.mem_singleton.1 g
                  exact ⟨HM.out, by show 1 < 4; decide⟩
              · rw [List.length_append, HK.out, HFL.out]
                exact HON.out
              · exact (HBL.out.alloc HBL.out.size _).grown HGR.out (by have := HBL.out.size; simp; omega) (fun j e => HOLT.out j e)
            case measure => simp [intOf]; omega
          · have hzz : (Z.alloc (.cells #[.string ⟨#[]⟩, .string ⟨#[63]⟩, .string ⟨#[42]⟩, .string ⟨#[43]⟩] 9)).heap[B]? = some (.cells #[.int .i32 r, .bool false, .int .i64 ((2 : Nat) : Int)] 42 (0, 0)) := (((Below.refl _ Z).alloc (Nat.le_refl _) _).block B (Array.getElem?_eq_some_iff.1 H1Z.out).1).trans H1Z.out
            obtain ⟨z0, z1, z2, zf⟩ := box3_facts hzz
            clear z0 z1 zf
            go_upto_region 14 with (fail)
            clear z2
            obtain ⟨L, hL⟩ : ∃ L, L = Z.alloc (.cells #[.string ⟨#[]⟩, .string ⟨#[63]⟩, .string ⟨#[42]⟩, .string ⟨#[43]⟩] 9) := ⟨_, rfl⟩
            rw [← hL]
            have hBL : Below w.heap.size w L := by rw [hL]; exact HBZ.out.alloc HBZ.out.size _
            have hOL : L.ownsRow w.heap.size 42 3 V k fl := by rw [hL]; exact HOZ.out.alloc _
            have h1L : L.heap[B]? = some (.cells #[.int .i32 r, .bool false, .int .i64 ((2 : Nat) : Int)] 42 (0, 0)) := by rw [hL]; exact hzz
            obtain ⟨d0, d1, d2, df⟩ := box3_facts h1L
            have HBL := hide hBL
            have HOL := hide hOL
            clear hL hBL hOL h1L hzz
            go_wp2_with (at_builtin; refine wpList_append_own _ rfl _ _ 22 rfl w.heap.size 42 i0 (.agg #[.int .i32 0, .bool false, .int .i64 0]) 3 16 Try.underlying22 hi hz0 hz1 hz2 rfl (by omega) _ _ _ rfl (HOL.out.alloc _) ⟨L.heap.size, 0, none⟩ 1 1 [.int .i32 r, .bool false, .int .i64 ((2 : Nat) : Int)] rfl rfl (cell_three_new _ _ _ _ _) (by simp [Value.oneCell']) (by unfold maxLen; omega) (by omega) (by have := HBL.out.size; simp; omega) ?_; intro v' w2 hown' hgrow _; have HON := hide hown'; have HGR := hide hgrow; clear hown' hgrow)
            go_roundw
            case rel =>
              refine ⟨bs ++ [(r, false, 2)], _, by rw [List.length_append, HK.out]; rfl, ?_, rfl, by rw [List.length_append, HK.out, List.length_singleton]; omega, by rw [List.length_append, HK.out, List.length_singleton]; omega, fun c hc => ?_, ?_, ?_⟩
              · rw [HSN.out]
                first | rfl | (rw [← HQ.out]; rfl) | (refine congrArg Value.string ?_; apply ByteArray.ext; apply Array.toList_inj.1; first | (simp [atB, cB]; done) | (rw [← HQ.out]; simp [atB, cB]; done))
              · rcases List.mem_append.1 hc with g | g
                · exact HBO.out c g
                · obtain rfl := List.mem_singleton.1 g
                  exact ⟨HM.out, by show 2 < 4; decide⟩
              · rw [List.length_append, HK.out, HFL.out]
                exact HON.out
              · exact (HBL.out.alloc HBL.out.size _).grown HGR.out (by have := HBL.out.size; simp; omega) (fun j e => HOLT.out j e)
            case measure => simp [intOf]; omega
          · have hzz : (Z.alloc (.cells #[.string ⟨#[]⟩, .string ⟨#[63]⟩, .string ⟨#[42]⟩, .string ⟨#[43]⟩] 9)).heap[B]? = some (.cells #[.int .i32 r, .bool false, .int .i64 ((3 : Nat) : Int)] 42 (0, 0)) := (((Below.refl _ Z).alloc (Nat.le_refl _) _).block B (Array.getElem?_eq_some_iff.1 H1Z.out).1).trans H1Z.out
            obtain ⟨z0, z1, z2, zf⟩ := box3_facts hzz
            clear z0 z1 zf
            go_upto_region 14 with (fail)
            clear z2
            obtain ⟨L, hL⟩ : ∃ L, L = Z.alloc (.cells #[.string ⟨#[]⟩, .string ⟨#[63]⟩, .string ⟨#[42]⟩, .string ⟨#[43]⟩] 9) := ⟨_, rfl⟩
            rw [← hL]
            have hBL : Below w.heap.size w L := by rw [hL]; exact HBZ.out.alloc HBZ.out.size _
            have hOL : L.ownsRow w.heap.size 42 3 V k fl := by rw [hL]; exact HOZ.out.alloc _
            have h1L : L.heap[B]? = some (.cells #[.int .i32 r, .bool false, .int .i64 ((3 : Nat) : Int)] 42 (0, 0)) := by rw [hL]; exact hzz
            obtain ⟨d0, d1, d2, df⟩ := box3_facts h1L
            have HBL := hide hBL
            have HOL := hide hOL
            clear hL hBL hOL h1L hzz
            go_wp2_with (at_builtin; refine wpList_append_own _ rfl _ _ 22 rfl w.heap.size 42 i0 (.agg #[.int .i32 0, .bool false, .int .i64 0]) 3 16 Try.underlying22 hi hz0 hz1 hz2 rfl (by omega) _ _ _ rfl (HOL.out.alloc _) ⟨L.heap.size, 0, none⟩ 1 1 [.int .i32 r, .bool false, .int .i64 ((3 : Nat) : Int)] rfl rfl (cell_three_new _ _ _ _ _) (by simp [Value.oneCell']) (by unfold maxLen; omega) (by omega) (by have := HBL.out.size; simp; omega) ?_; intro v' w2 hown' hgrow _; have HON := hide hown'; have HGR := hide hgrow; clear hown' hgrow)
            go_roundw
            case rel =>
              refine ⟨bs ++ [(r, false, 3)], _, by rw [List.length_append, HK.out]; rfl, ?_, rfl, by rw [List.length_append, HK.out, List.length_singleton]; omega, by rw [List.length_append, HK.out, List.length_singleton]; omega, fun c hc => ?_, ?_, ?_⟩
              · rw [HSN.out]
                first | rfl | (rw [← HQ.out]; rfl) | (refine congrArg Value.string ?_; apply ByteArray.ext; apply Array.toList_inj.1; first | (simp [atB, cB]; done) | (rw [← HQ.out]; simp [atB, cB]; done))
              · rcases List.mem_append.1 hc with g | g
                · exact HBO.out c g
                · obtain rfl := List.mem_singleton.1 g
                  exact ⟨HM.out, by show 3 < 4; decide⟩
              · rw [List.length_append, HK.out, HFL.out]
                exact HON.out
              · exact (HBL.out.alloc HBL.out.size _).grown HGR.out (by have := HBL.out.size; simp; omega) (fun j e => HOLT.out j e)
            case measure => simp [intOf]; omega
      · have hm : mayB r = false := by simpa using hm
        rw [hm] at KM
        clear hm
        go_upto_region 10 with (go_at_call 13; refine (KM.out _).mono ?_; rintro e x1 ⟨rfl, hx⟩; obtain rfl : Y = x1 := hx.symm; clear hx)
        have h2 : (Y.setCell ⟨B, 0, none⟩ (.int .i32 120)).heap[B]? = some (.cells #[.int .i32 120, .bool any, .int .i64 (how' : Int)] 42 (0, 0)) := heap_setCell_same Y B 0 _ _ _ H1.out
        have hB2 : Below w.heap.size w (Y.setCell ⟨B, 0, none⟩ (.int .i32 120)) := HB.out.setCell (p := ⟨B, 0, none⟩) HBS.out _
        have ho2 : (Y.setCell ⟨B, 0, none⟩ (.int .i32 120)).ownsRow w.heap.size 42 3 V k fl := HO.out.kept (grownX_set Y B 0 _) (.inr (fun e => by have := HLT1.out B e; omega))
        clear d0 d1 d2 df H1 HB HO KM
        generalize Y.setCell ⟨B, 0, none⟩ (.int .i32 120) = Y2 at *
        obtain ⟨d0, d1, d2, df⟩ := box3_facts h2
        have H1 := hide h2
        have HB := hide hB2
        have HO := hide ho2
        have HM : Hid (mayB 120 = true) := by show mayB 120 = true; decide
        clear h2 hB2 ho2
        clear hr1 hr2 KW
        obtain ⟨r2, hr2'⟩ : ∃ r2 : Int, (120 : Int) = r2 := ⟨_, rfl⟩
        rw [hr2'] at H1 d0 HM
        clear hr2'
        have HE := hide (encode_list r2)
        have hes : (Utf8.encode r2).size ≤ 4 := encode_size r2
        have kq := fun W => xquote_any (Utf8.encode r2) W (by omega)
        have hbe : bl (Utf8.encode r2) = Lib.encodeRune r2 := by rw [HE.out]; exact bl_mkW _
        rw [hbe] at kq
        have hq4 : (⟨(xqo (Lib.encodeRune r2)).toArray⟩ : ByteArray).size ≤ 8 := by
          have h1 := xqo_len (Lib.encodeRune r2)
          have h2 : (Lib.encodeRune r2).length ≤ 4 := by rw [← hbe, bl_len]; exact hes
          simp [ByteArray.size]
          omega
        generalize hqq : (⟨(xqo (Lib.encodeRune r2)).toArray⟩ : ByteArray) = q at *
        have HQ := hide hqq
        have KQ := hide kq
        clear hes kq hbe hqq
        cases any with
        | true =>
          go_upto_region 13 with (fail)
          obtain ⟨Z, hZ⟩ : ∃ Z, Z = Y2 := ⟨_, rfl⟩
          rw [← hZ] at H1 HB HO ⊢
          have H1Z := hide H1.out
          have HBZ := hide HB.out
          have HOZ := hide HO.out
          have hsz2 : (O ++ (⟨#[46]⟩ : ByteArray)).size ≤ 101 := by rw [ByteArray.size_append]; show O.size + 1 ≤ 101; omega
          clear hZ H1 HB HO
          clear d0 d1 d2 df
          rcases (show how' = 0 ∨ how' = 1 ∨ how' = 2 ∨ how' = 3 by have := HH4.out; omega) with rfl | rfl | rfl | rfl
          · have hzz : (Z.alloc (.cells #[.string ⟨#[]⟩, .string ⟨#[63]⟩, .string ⟨#[42]⟩, .string ⟨#[43]⟩] 9)).heap[B]? = some (.cells #[.int .i32 r2, .bool true, .int .i64 ((0 : Nat) : Int)] 42 (0, 0)) := (((Below.refl _ Z).alloc (Nat.le_refl _) _).block B (Array.getElem?_eq_some_iff.1 H1Z.out).1).trans H1Z.out
            obtain ⟨z0, z1, z2, zf⟩ := box3_facts hzz
            clear z0 z1 zf
            go_upto_region 14 with (fail)
            clear z2
            obtain ⟨L, hL⟩ : ∃ L, L = Z.alloc (.cells #[.string ⟨#[]⟩, .string ⟨#[63]⟩, .string ⟨#[42]⟩, .string ⟨#[43]⟩] 9) := ⟨_, rfl⟩
            rw [← hL]
            have hBL : Below w.heap.size w L := by rw [hL]; exact HBZ.out.alloc HBZ.out.size _
            have hOL : L.ownsRow w.heap.size 42 3 V k fl := by rw [hL]; exact HOZ.out.alloc _
            have h1L : L.heap[B]? = some (.cells #[.int .i32 r2, .bool true, .int .i64 ((0 : Nat) : Int)] 42 (0, 0)) := by rw [hL]; exact hzz
            obtain ⟨d0, d1, d2, df⟩ := box3_facts h1L
            have HBL := hide hBL
            have HOL := hide hOL
            clear hL hBL hOL h1L hzz
            go_wp2_with (at_builtin; refine wpList_append_own _ rfl _ _ 22 rfl w.heap.size 42 i0 (.agg #[.int .i32 0, .bool false, .int .i64 0]) 3 16 Try.underlying22 hi hz0 hz1 hz2 rfl (by omega) _ _ _ rfl (HOL.out.alloc _) ⟨L.heap.size, 0, none⟩ 1 1 [.int .i32 r2, .bool true, .int .i64 ((0 : Nat) : Int)] rfl rfl (cell_three_new _ _ _ _ _) (by simp [Value.oneCell']) (by unfold maxLen; omega) (by omega) (by have := HBL.out.size; simp; omega) ?_; intro v' w2 hown' hgrow _; have HON := hide hown'; have HGR := hide hgrow; clear hown' hgrow)
            go_roundw
            case rel =>
              refine ⟨bs ++ [(r2, true, 0)], _, by rw [List.length_append, HK.out]; rfl, ?_, rfl, by rw [List.length_append, HK.out, List.length_singleton]; omega, by rw [List.length_append, HK.out, List.length_singleton]; omega, fun c hc => ?_, ?_, ?_⟩
              · rw [HSN.out]
                first | rfl | (rw [← HQ.out]; rfl) | (refine congrArg Value.string ?_; apply ByteArray.ext; apply Array.toList_inj.1; first | (simp [atB, cB]; done) | (rw [← HQ.out]; simp [atB, cB]; done))
              · rcases List.mem_append.1 hc with g | g
                · exact HBO.out c g
                · obtain rfl := List.mem_singleton.1 g
                  exact ⟨HM.out, by show 0 < 4; decide⟩
              · rw [List.length_append, HK.out, HFL.out]
                exact HON.out
              · exact (HBL.out.alloc HBL.out.size _).grown HGR.out (by have := HBL.out.size; simp; omega) (fun j e => HOLT.out j e)
            case measure => simp [intOf]; omega
          · have hzz : (Z.alloc (.cells #[.string ⟨#[]⟩, .string ⟨#[63]⟩, .string ⟨#[42]⟩, .string ⟨#[43]⟩] 9)).heap[B]? = some (.cells #[.int .i32 r2, .bool true, .int .i64 ((1 : Nat) : Int)] 42 (0, 0)) := (((Below.refl _ Z).alloc (Nat.le_refl _) _).block B (Array.getElem?_eq_some_iff.1 H1Z.out).1).trans H1Z.out
            obtain ⟨z0, z1, z2, zf⟩ := box3_facts hzz
            clear z0 z1 zf
            go_upto_region 14 with (fail)
            clear z2
            obtain ⟨L, hL⟩ : ∃ L, L = Z.alloc (.cells #[.string ⟨#[]⟩, .string ⟨#[63]⟩, .string ⟨#[42]⟩, .string ⟨#[43]⟩] 9) := ⟨_, rfl⟩
            rw [← hL]
            have hBL : Below w.heap.size w L := by rw [hL]; exact HBZ.out.alloc HBZ.out.size _
            have hOL : L.ownsRow w.heap.size 42 3 V k fl := by rw [hL]; exact HOZ.out.alloc _
            have h1L : L.heap[B]? = some (.cells #[.int .i32 r2, .bool true, .int .i64 ((1 : Nat) : Int)] 42 (0, 0)) := by rw [hL]; exact hzz
            obtain ⟨d0, d1, d2, df⟩ := box3_facts h1L
            have HBL := hide hBL
            have HOL := hide hOL
            clear hL hBL hOL h1L hzz
            go_wp2_with (at_builtin; refine wpList_append_own _ rfl _ _ 22 rfl w.heap.size 42 i0 (.agg #[.int .i32 0, .bool false, .int .i64 0]) 3 16 Try.underlying22 hi hz0 hz1 hz2 rfl (by omega) _ _ _ rfl (HOL.out.alloc _) ⟨L.heap.size, 0, none⟩ 1 1 [.int .i32 r2, .bool true, .int .i64 ((1 : Nat) : Int)] rfl rfl (cell_three_new _ _ _ _ _) (by simp [Value.oneCell']) (by unfold maxLen; omega) (by omega) (by have := HBL.out.size; simp; omega) ?_; intro v' w2 hown' hgrow _; have HON := hide hown'; have HGR := hide hgrow; clear hown' hgrow)
            go_roundw
            case rel =>
              refine ⟨bs ++ [(r2, true, 1)], _, by rw [List.length_append, HK.out]; rfl, ?_, rfl, by rw [List.length_append, HK.out, List.length_singleton]; omega, by rw [List.length_append, HK.out, List.length_singleton]; omega, fun c hc => ?_, ?_, ?_⟩
              · rw [HSN.out]
                first | rfl | (rw [← HQ.out]; rfl) | (refine congrArg Value.string ?_; apply ByteArray.ext; apply Array.toList_inj.1; first | (simp [atB, cB]; done) | (rw [← HQ.out]; simp [atB, cB]; done))
              · rcases List.mem_append.1 hc with g | g
                · exact HBO.out c g
                · obtain rfl := List.mem_singleton.1 g
                  exact ⟨HM.out, by show 1 < 4; decide⟩
              · rw [List.length_append, HK.out, HFL.out]
                exact HON.out
              · exact (HBL.out.alloc HBL.out.size _).grown HGR.out (by have := HBL.out.size; simp; omega) (fun j e => HOLT.out j e)
            case measure => simp [intOf]; omega
          · have hzz : (Z.alloc (.cells #[.string ⟨#[]⟩, .string ⟨#[63]⟩, .string ⟨#[42]⟩, .string ⟨#[43]⟩] 9)).heap[B]? = some (.cells #[.int .i32 r2, .bool true, .int .i64 ((2 : Nat) : Int)] 42 (0, 0)) := (((Below.refl _ Z).alloc (Nat.le_refl _) _).block B (Array.getElem?_eq_some_iff.1 H1Z.out).1).trans H1Z.out
            obtain ⟨z0, z1, z2, zf⟩ := box3_facts hzz
            clear z0 z1 zf
            go_upto_region 14 with (fail)
            clear z2
            obtain ⟨L, hL⟩ : ∃ L, L = Z.alloc (.cells #[.string ⟨#[]⟩, .string ⟨#[63]⟩, .string ⟨#[42]⟩, .string ⟨#[43]⟩] 9) := ⟨_, rfl⟩
            rw [← hL]
            have hBL : Below w.heap.size w L := by rw [hL]; exact HBZ.out.alloc HBZ.out.size _
            have hOL : L.ownsRow w.heap.size 42 3 V k fl := by rw [hL]; exact HOZ.out.alloc _
            have h1L : L.heap[B]? = some (.cells #[.int .i32 r2, .bool true, .int .i64 ((2 : Nat) : Int)] 42 (0, 0)) := by rw [hL]; exact hzz
            obtain ⟨d0, d1, d2, df⟩ := box3_facts h1L
            have HBL := hide hBL
            have HOL := hide hOL
            clear hL hBL hOL h1L hzz
            go_wp2_with (at_builtin; refine wpList_append_own _ rfl _ _ 22 rfl w.heap.size 42 i0 (.agg #[.int .i32 0, .bool false, .int .i64 0]) 3 16 Try.underlying22 hi hz0 hz1 hz2 rfl (by omega) _ _ _ rfl (HOL.out.alloc _) ⟨L.heap.size, 0, none⟩ 1 1 [.int .i32 r2, .bool true, .int .i64 ((2 : Nat) : Int)] rfl rfl (cell_three_new _ _ _ _ _) (by simp [Value.oneCell']) (by unfold maxLen; omega) (by omega) (by have := HBL.out.size; simp; omega) ?_; intro v' w2 hown' hgrow _; have HON := hide hown'; have HGR := hide hgrow; clear hown' hgrow)
            go_roundw
            case rel =>
              refine ⟨bs ++ [(r2, true, 2)], _, by rw [List.length_append, HK.out]; rfl, ?_, rfl, by rw [List.length_append, HK.out, List.length_singleton]; omega, by rw [List.length_append, HK.out, List.length_singleton]; omega, fun c hc => ?_, ?_, ?_⟩
              · rw [HSN.out]
                first | rfl | (rw [← HQ.out]; rfl) | (refine congrArg Value.string ?_; apply ByteArray.ext; apply Array.toList_inj.1; first | (simp [atB, cB]; done) | (rw [← HQ.out]; simp [atB, cB]; done))
              · rcases List.mem_append.1 hc with g | g
                · exact HBO.out c g
                · obtain rfl := List.mem_singleton.1 g
                  exact ⟨HM.out, by show 2 < 4; decide⟩
              · rw [List.length_append, HK.out, HFL.out]
                exact HON.out
              · exact (HBL.out.alloc HBL.out.size _).grown HGR.out (by have := HBL.out.size; simp; omega) (fun j e => HOLT.out j e)
            case measure => simp [intOf]; omega
          · have hzz : (Z.alloc (.cells #[.string ⟨#[]⟩, .string ⟨#[63]⟩, .string ⟨#[42]⟩, .string ⟨#[43]⟩] 9)).heap[B]? = some (.cells #[.int .i32 r2, .bool true, .int .i64 ((3 : Nat) : Int)] 42 (0, 0)) := (((Below.refl _ Z).alloc (Nat.le_refl _) _).block B (Array.getElem?_eq_some_iff.1 H1Z.out).1).trans H1Z.out
            obtain ⟨z0, z1, z2, zf⟩ := box3_facts hzz
            clear z0 z1 zf
            go_upto_region 14 with (fail)
            clear z2
            obtain ⟨L, hL⟩ : ∃ L, L = Z.alloc (.cells #[.string ⟨#[]⟩, .string ⟨#[63]⟩, .string ⟨#[42]⟩, .string ⟨#[43]⟩] 9) := ⟨_, rfl⟩
            rw [← hL]
            have hBL : Below w.heap.size w L := by rw [hL]; exact HBZ.out.alloc HBZ.out.size _
            have hOL : L.ownsRow w.heap.size 42 3 V k fl := by rw [hL]; exact HOZ.out.alloc _
            have h1L : L.heap[B]? = some (.cells #[.int .i32 r2, .bool true, .int .i64 ((3 : Nat) : Int)] 42 (0, 0)) := by rw [hL]; exact hzz
            obtain ⟨d0, d1, d2, df⟩ := box3_facts h1L
            have HBL := hide hBL
            have HOL := hide hOL
            clear hL hBL hOL h1L hzz
            go_wp2_with (at_builtin; refine wpList_append_own _ rfl _ _ 22 rfl w.heap.size 42 i0 (.agg #[.int .i32 0, .bool false, .int .i64 0]) 3 16 Try.underlying22 hi hz0 hz1 hz2 rfl (by omega) _ _ _ rfl (HOL.out.alloc _) ⟨L.heap.size, 0, none⟩ 1 1 [.int .i32 r2, .bool true, .int .i64 ((3 : Nat) : Int)] rfl rfl (cell_three_new _ _ _ _ _) (by simp [Value.oneCell']) (by unfold maxLen; omega) (by omega) (by have := HBL.out.size; simp; omega) ?_; intro v' w2 hown' hgrow _; have HON := hide hown'; have HGR := hide hgrow; clear hown' hgrow)
            go_roundw
            case rel =>
              refine ⟨bs ++ [(r2, true, 3)], _, by rw [List.length_append, HK.out]; rfl, ?_, rfl, by rw [List.length_append, HK.out, List.length_singleton]; omega, by rw [List.length_append, HK.out, List.length_singleton]; omega, fun c hc => ?_, ?_, ?_⟩
              · rw [HSN.out]
                first | rfl | (rw [← HQ.out]; rfl) | (refine congrArg Value.string ?_; apply ByteArray.ext; apply Array.toList_inj.1; first | (simp [atB, cB]; done) | (rw [← HQ.out]; simp [atB, cB]; done))
              · rcases List.mem_append.1 hc with g | g
                · exact HBO.out c g
                · obtain rfl := List.mem_singleton.1 g
                  exact ⟨HM.out, by show 3 < 4; decide⟩
              · rw [List.length_append, HK.out, HFL.out]
                exact HON.out
              · exact (HBL.out.alloc HBL.out.size _).grown HGR.out (by have := HBL.out.size; simp; omega) (fun j e => HOLT.out j e)
            case measure => simp [intOf]; omega
        | false =>
          go_upto_region 13 with (go_at_call 14; refine (KQ.out _).mono ?_; rintro e x1 ⟨rfl, hb⟩; have HX := hide hb; clear hb)
          have h1z := (HX.out.block B (Array.getElem?_eq_some_iff.1 H1.out).1).trans H1.out
          have H1Z := hide h1z
          have HBZ := hide (bseq HB.out HX.out)
          have HOZ := hide (ownsRow_below HO.out HX.out)
          have hsz2 : (O ++ q).size ≤ 108 := by rw [ByteArray.size_append]; omega
          obtain ⟨Z, hZ⟩ : ∃ Z, Z = x1 := ⟨_, rfl⟩
          rw [← hZ] at H1Z HBZ HOZ ⊢
          clear hZ H1 HB HO h1z HX
          clear d0 d1 d2 df
          rcases (show how' = 0 ∨ how' = 1 ∨ how' = 2 ∨ how' = 3 by have := HH4.out; omega) with rfl | rfl | rfl | rfl
          · have hzz : (Z.alloc (.cells #[.string ⟨#[]⟩, .string ⟨#[63]⟩, .string ⟨#[42]⟩, .string ⟨#[43]⟩] 9)).heap[B]? = some (.cells #[.int .i32 r2, .bool false, .int .i64 ((0 : Nat) : Int)] 42 (0, 0)) := (((Below.refl _ Z).alloc (Nat.le_refl _) _).block B (Array.getElem?_eq_some_iff.1 H1Z.out).1).trans H1Z.out
            obtain ⟨z0, z1, z2, zf⟩ := box3_facts hzz
            clear z0 z1 zf
            go_upto_region 14 with (fail)
            clear z2
            obtain ⟨L, hL⟩ : ∃ L, L = Z.alloc (.cells #[.string ⟨#[]⟩, .string ⟨#[63]⟩, .string ⟨#[42]⟩, .string ⟨#[43]⟩] 9) := ⟨_, rfl⟩
            rw [← hL]
            have hBL : Below w.heap.size w L := by rw [hL]; exact HBZ.out.alloc HBZ.out.size _
            have hOL : L.ownsRow w.heap.size 42 3 V k fl := by rw [hL]; exact HOZ.out.alloc _
            have h1L : L.heap[B]? = some (.cells #[.int .i32 r2, .bool false, .int .i64 ((0 : Nat) : Int)] 42 (0, 0)) := by rw [hL]; exact hzz
            obtain ⟨d0, d1, d2, df⟩ := box3_facts h1L
            have HBL := hide hBL
            have HOL := hide hOL
            clear hL hBL hOL h1L hzz
            go_wp2_with (at_builtin; refine wpList_append_own _ rfl _ _ 22 rfl w.heap.size 42 i0 (.agg #[.int .i32 0, .bool false, .int .i64 0]) 3 16 Try.underlying22 hi hz0 hz1 hz2 rfl (by omega) _ _ _ rfl (HOL.out.alloc _) ⟨L.heap.size, 0, none⟩ 1 1 [.int .i32 r2, .bool false, .int .i64 ((0 : Nat) : Int)] rfl rfl (cell_three_new _ _ _ _ _) (by simp [Value.oneCell']) (by unfold maxLen; omega) (by omega) (by have := HBL.out.size; simp; omega) ?_; intro v' w2 hown' hgrow _; have HON := hide hown'; have HGR := hide hgrow; clear hown' hgrow)
            go_roundw
            case rel =>
              refine ⟨bs ++ [(r2, false, 0)], _, by rw [List.length_append, HK.out]; rfl, ?_, rfl, by rw [List.length_append, HK.out, List.length_singleton]; omega, by rw [List.length_append, HK.out, List.length_singleton]; omega, fun c hc => ?_, ?_, ?_⟩
              · rw [HSN.out]
                first | rfl | (rw [← HQ.out]; rfl) | (refine congrArg Value.string ?_; apply ByteArray.ext; apply Array.toList_inj.1; first | (simp [atB, cB]; done) | (rw [← HQ.out]; simp [atB, cB]; done))
              · rcases List.mem_append.1 hc with g | g
                · exact HBO.out c g
                · obtain rfl := List.mem_singleton.1 g
                  exact ⟨HM.out, by show 0 < 4; decide⟩
              · rw [List.length_append, HK.out, HFL.out]
                exact HON.out
              · exact (HBL.out.alloc HBL.out.size _).grown HGR.out (by have := HBL.out.size; simp; omega) (fun j e => HOLT.out j e)
            case measure => simp [intOf]; omega
          · have hzz : (Z.alloc (.cells #[.string ⟨#[]⟩, .string ⟨#[63]⟩, .string ⟨#[42]⟩, .string ⟨#[43]⟩] 9)).heap[B]? = some (.cells #[.int .i32 r2, .bool false, .int .i64 ((1 : Nat) : Int)] 42 (0, 0)) := (((Below.refl _ Z).alloc (Nat.le_refl _) _).block B (Array.getElem?_eq_some_iff.1 H1Z.out).1).trans H1Z.out
            obtain ⟨z0, z1, z2, zf⟩ := box3_facts hzz
            clear z0 z1 zf
            go_upto_region 14 with (fail)
            clear z2
            obtain ⟨L, hL⟩ : ∃ L, L = Z.alloc (.cells #[.string ⟨#[]⟩, .string ⟨#[63]⟩, .string ⟨#[42]⟩, .string ⟨#[43]⟩] 9) := ⟨_, rfl⟩
            rw [← hL]
            have hBL : Below w.heap.size w L := by rw [hL]; exact HBZ.out.alloc HBZ.out.size _
            have hOL : L.ownsRow w.heap.size 42 3 V k fl := by rw [hL]; exact HOZ.out.alloc _
            have h1L : L.heap[B]? = some (.cells #[.int .i32 r2, .bool false, .int .i64 ((1 : Nat) : Int)] 42 (0, 0)) := by rw [hL]; exact hzz
            obtain ⟨d0, d1, d2, df⟩ := box3_facts h1L
            have HBL := hide hBL
            have HOL := hide hOL
            clear hL hBL hOL h1L hzz
            go_wp2_with (at_builtin; refine wpList_append_own _ rfl _ _ 22 rfl w.heap.size 42 i0 (.agg #[.int .i32 0, .bool false, .int .i64 0]) 3 16 Try.underlying22 hi hz0 hz1 hz2 rfl (by omega) _ _ _ rfl (HOL.out.alloc _) ⟨L.heap.size, 0, none⟩ 1 1 [.int .i32 r2, .bool false, .int .i64 ((1 : Nat) : Int)] rfl rfl (cell_three_new _ _ _ _ _) (by simp [Value.oneCell']) (by unfold maxLen; omega) (by omega) (by have := HBL.out.size; simp; omega) ?_; intro v' w2 hown' hgrow _; have HON := hide hown'; have HGR := hide hgrow; clear hown' hgrow)
            go_roundw
            case rel =>
              refine ⟨bs ++ [(r2, false, 1)], _, by rw [List.length_append, HK.out]; rfl, ?_, rfl, by rw [List.length_append, HK.out, List.length_singleton]; omega, by rw [List.length_append, HK.out, List.length_singleton]; omega, fun c hc => ?_, ?_, ?_⟩
              · rw [HSN.out]
                first | rfl | (rw [← HQ.out]; rfl) | (refine congrArg Value.string ?_; apply ByteArray.ext; apply Array.toList_inj.1; first | (simp [atB, cB]; done) | (rw [← HQ.out]; simp [atB, cB]; done))
              · rcases List.mem_append.1 hc with g | g
                · exact HBO.out c g
                · obtain rfl := List.mem_singleton.1 g
                  exact ⟨HM.out, by show 1 < 4; decide⟩
              · rw [List.length_append, HK.out, HFL.out]
                exact HON.out
              · exact (HBL.out.alloc HBL.out.size _).grown HGR.out (by have := HBL.out.size; simp; omega) (fun j e => HOLT.out j e)
            case measure => simp [intOf]; omega
          · have hzz : (Z.alloc (.cells #[.string ⟨#[]⟩, .string ⟨#[63]⟩, .string ⟨#[42]⟩, .string ⟨#[43]⟩] 9)).heap[B]? = some (.cells #[.int .i32 r2, .bool false, .int .i64 ((2 : Nat) : Int)] 42 (0, 0)) := (((Below.refl _ Z).alloc (Nat.le_refl _) _).block B (Array.getElem?_eq_some_iff.1 H1Z.out).1).trans H1Z.out
            obtain ⟨z0, z1, z2, zf⟩ := box3_facts hzz
            clear z0 z1 zf
            go_upto_region 14 with (fail)
            clear z2
            obtain ⟨L, hL⟩ : ∃ L, L = Z.alloc (.cells #[.string ⟨#[]⟩, .string ⟨#[63]⟩, .string ⟨#[42]⟩, .string ⟨#[43]⟩] 9) := ⟨_, rfl⟩
            rw [← hL]
            have hBL : Below w.heap.size w L := by rw [hL]; exact HBZ.out.alloc HBZ.out.size _
            have hOL : L.ownsRow w.heap.size 42 3 V k fl := by rw [hL]; exact HOZ.out.alloc _
            have h1L : L.heap[B]? = some (.cells #[.int .i32 r2, .bool false, .int .i64 ((2 : Nat) : Int)] 42 (0, 0)) := by rw [hL]; exact hzz
            obtain ⟨d0, d1, d2, df⟩ := box3_facts h1L
            have HBL := hide hBL
            have HOL := hide hOL
            clear hL hBL hOL h1L hzz
            go_wp2_with (at_builtin; refine wpList_append_own _ rfl _ _ 22 rfl w.heap.size 42 i0 (.agg #[.int .i32 0, .bool false, .int .i64 0]) 3 16 Try.underlying22 hi hz0 hz1 hz2 rfl (by omega) _ _ _ rfl (HOL.out.alloc _) ⟨L.heap.size, 0, none⟩ 1 1 [.int .i32 r2, .bool false, .int .i64 ((2 : Nat) : Int)] rfl rfl (cell_three_new _ _ _ _ _) (by simp [Value.oneCell']) (by unfold maxLen; omega) (by omega) (by have := HBL.out.size; simp; omega) ?_; intro v' w2 hown' hgrow _; have HON := hide hown'; have HGR := hide hgrow; clear hown' hgrow)
            go_roundw
            case rel =>
              refine ⟨bs ++ [(r2, false, 2)], _, by rw [List.length_append, HK.out]; rfl, ?_, rfl, by rw [List.length_append, HK.out, List.length_singleton]; omega, by rw [List.length_append, HK.out, List.length_singleton]; omega, fun c hc => ?_, ?_, ?_⟩
              · rw [HSN.out]
                first | rfl | (rw [← HQ.out]; rfl) | (refine congrArg Value.string ?_; apply ByteArray.ext; apply Array.toList_inj.1; first | (simp [atB, cB]; done) | (rw [← HQ.out]; simp [atB, cB]; done))
              · rcases List.mem_append.1 hc with g | g
                · exact HBO.out c g
                · obtain rfl := List.mem_singleton.1 g
                  exact ⟨HM.out, by show 2 < 4; decide⟩
              · rw [List.length_append, HK.out, HFL.out]
                exact HON.out
              · exact (HBL.out.alloc HBL.out.size _).grown HGR.out (by have := HBL.out.size; simp; omega) (fun j e => HOLT.out j e)
            case measure => simp [intOf]; omega
          · have hzz : (Z.alloc (.cells #[.string ⟨#[]⟩, .string ⟨#[63]⟩, .string ⟨#[42]⟩, .string ⟨#[43]⟩] 9)).heap[B]? = some (.cells #[.int .i32 r2, .bool false, .int .i64 ((3 : Nat) : Int)] 42 (0, 0)) := (((Below.refl _ Z).alloc (Nat.le_refl _) _).block B (Array.getElem?_eq_some_iff.1 H1Z.out).1).trans H1Z.out
            obtain ⟨z0, z1, z2, zf⟩ := box3_facts hzz
            clear z0 z1 zf
            go_upto_region 14 with (fail)
            clear z2
            obtain ⟨L, hL⟩ : ∃ L, L = Z.alloc (.cells #[.string ⟨#[]⟩, .string ⟨#[63]⟩, .string ⟨#[42]⟩, .string ⟨#[43]⟩] 9) := ⟨_, rfl⟩
            rw [← hL]
            have hBL : Below w.heap.size w L := by rw [hL]; exact HBZ.out.alloc HBZ.out.size _
            have hOL : L.ownsRow w.heap.size 42 3 V k fl := by rw [hL]; exact HOZ.out.alloc _
            have h1L : L.heap[B]? = some (.cells #[.int .i32 r2, .bool false, .int .i64 ((3 : Nat) : Int)] 42 (0, 0)) := by rw [hL]; exact hzz
            obtain ⟨d0, d1, d2, df⟩ := box3_facts h1L
            have HBL := hide hBL
            have HOL := hide hOL
            clear hL hBL hOL h1L hzz
            go_wp2_with (at_builtin; refine wpList_append_own _ rfl _ _ 22 rfl w.heap.size 42 i0 (.agg #[.int .i32 0, .bool false, .int .i64 0]) 3 16 Try.underlying22 hi hz0 hz1 hz2 rfl (by omega) _ _ _ rfl (HOL.out.alloc _) ⟨L.heap.size, 0, none⟩ 1 1 [.int .i32 r2, .bool false, .int .i64 ((3 : Nat) : Int)] rfl rfl (cell_three_new _ _ _ _ _) (by simp [Value.oneCell']) (by unfold maxLen; omega) (by omega) (by have := HBL.out.size; simp; omega) ?_; intro v' w2 hown' hgrow _; have HON := hide hown'; have HGR := hide hgrow; clear hown' hgrow)
            go_roundw
            case rel =>
              refine ⟨bs ++ [(r2, false, 3)], _, by rw [List.length_append, HK.out]; rfl, ?_, rfl, by rw [List.length_append, HK.out, List.length_singleton]; omega, by rw [List.length_append, HK.out, List.length_singleton]; omega, fun c hc => ?_, ?_, ?_⟩
              · rw [HSN.out]
                first | rfl | (rw [← HQ.out]; rfl) | (refine congrArg Value.string ?_; apply ByteArray.ext; apply Array.toList_inj.1; first | (simp [atB, cB]; done) | (rw [← HQ.out]; simp [atB, cB]; done))
              · rcases List.mem_append.1 hc with g | g
                · exact HBO.out c g
                · obtain rfl := List.mem_singleton.1 g
                  exact ⟨HM.out, by show 3 < 4; decide⟩
              · rw [List.length_append, HK.out, HFL.out]
                exact HON.out
              · exact (HBL.out.alloc HBL.out.size _).grown HGR.out (by have := HBL.out.size; simp; omega) (fun j e => HOLT.out j e)
            case measure => simp [intOf]; omega
    · have hno : (xs.length : Int) ≤ (bs.length : Int) ∨ (20 : Int) ≤ (bs.length : Int) := by omega
      obtain ⟨gg, cc, hvv, hsl⟩ := slbt_of_owns (bs := bs) (by rw [HFIN.out] ; exact HO.out)
      subst hvv
      have HSL := hide hsl
      have HBO2 := hide HBO.out
      have HL20 := hide h20
      generalize hk : bs.length = k at *
      have HK := hide hk
      clear hk hsl
      rcases hno with hno | hno
      · go_wp2_with (fail)
        go_ret2
        exact ⟨bs, gg, cc, by rw [HK.out]; exact HL20.out, HBO2.out, by rw [HO9.out, HK.out]; rfl, HSL.out, HB.out⟩
      · by_cases hl1 : (k : Int) < (xs.length : Int)
        · go_wp2_with (fail)
          go_ret2
          exact ⟨bs, gg, cc, by rw [HK.out]; exact HL20.out, HBO2.out, by rw [HO9.out, HK.out]; rfl, HSL.out, HB.out⟩
        · have hl1 : (xs.length : Int) ≤ (k : Int) := by omega
          go_wp2_with (fail)
          go_ret2
          exact ⟨bs, gg, cc, by rw [HK.out]; exact HL20.out, HBO2.out, by rw [HO9.out, HK.out]; rfl, HSL.out, HB.out⟩
end Go.Proofs.Ytedfnppekikcpaa
