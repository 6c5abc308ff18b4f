/- PmemStores, walked. -/
import Derived.Test.YtkdonacnnienaaaPWby
import Derived.Test.YtkdonacnnienaaaPAwW
import Derived.Test.YtkdonacnnienaaaPWin
namespace Go.Proofs.Ytkdonacnnienaaa
open Go.RowKit Go.Shelf
set_option linter.unusedVariables false

def imgL (i : Nat) : List Nat := (List.range i).map (fun k => (k + 1) % 256)
theorem imgL_len (i : Nat) : (imgL i).length = i := by simp [imgL]
theorem imgL_lt (i : Nat) : ∀ x ∈ imgL i, x < 256 := fun x hx => by
  simp [imgL] at hx
  omega
theorem imgL_succ (i : Nat) : (imgL (i + 1)).map B8 = (imgL i).map B8 ++ [.int .u8 (((i + 1) % 256 : Nat) : Int)] := by simp [imgL, List.range_succ, B8]
theorem infoB : ∃ i, Try.prog.info? 5 = some i ∧ i.zero = some (.int .u8 0) ∧ i.size = 1 ∧ i.bytes = 1 := by
  have h : (Try.prog.info? 5).map (fun i => (i.zero, i.size, i.bytes)) = some (some (.int .u8 0), 1, 1) := by kernel_rfl
  obtain ⟨i, h1, h2⟩ := Option.map_eq_some_iff.1 h
  simp only [Prod.mk.injEq] at h2
  exact ⟨i, h1, h2.1, h2.2.1, h2.2.2⟩
theorem own_sl {w : World} {B g N cp : Nat} {l : List Nat} (h : w.ownsRow B 5 1 (.slice (some ⟨g, 0, none⟩) N cp) N (l.map B8)) (hx : ∀ x ∈ l, x < 256) (hl : l.length = N) : Sl w (some ⟨g, 0, none⟩) l ∧ B ≤ g ∧ N ≤ cp ∧ ∃ cur, w.heap[g]? = some (.cells cur 5 (0, 0)) ∧ cur.size = cp := by
  rcases h.2 with ⟨e, _⟩ | ⟨g', cap, cur, e, h1, h2, h3, _, h4, h5⟩
  · cases e
  · cases e
    refine ⟨.inr ⟨g, 0, rfl, lt_of_heap h2, fun i x hi => ⟨?_, hx x (List.mem_of_getElem? hi)⟩⟩, h1, h3, cur, h2, by omega⟩
    have hlt : i < l.length := (List.getElem?_eq_some_iff.1 hi).1
    have h6 : (cur.toList.take (N * 1))[i]? = some (B8 x) := by rw [h5, List.getElem?_map, hi]; rfl
    rw [List.getElem?_take, if_pos (by omega)] at h6
    rw [Nat.zero_add, cell8 h2]
    simpa [B8] using h6
/-- How many words the first j bytes from at_ on touch. -/
def cntW (at_ j : Nat) : Nat := if j = 0 then 0 else (at_ + j - 1) / 8 - at_ / 8 + 1
theorem cntW_all (at_ n : Nat) (h : at_ + n ≤ 4194304) : (wordsOf at_ n).length = cntW at_ n := by
  rw [wordsOf_eq at_ n h]
  unfold cntW
  split
  · rfl
  · simp
theorem cntW_same {at_ j : Nat} (h0 : ¬ j = 0) (h8 : ¬ (at_ + j) % 8 = 0) : cntW at_ (j + 1) = cntW at_ j := by
  unfold cntW
  rw [if_neg h0, if_neg (by omega)]
  omega
theorem cntW_more {at_ j : Nat} (h : j = 0 ∨ (at_ + j) % 8 = 0) : cntW at_ (j + 1) = cntW at_ j + 1 := by
  unfold cntW
  rw [if_neg (by omega)]
  split <;> omega
theorem index_byte (g o i len cap : Nat) (hi : i < len) (w : World) : (Instr.indexAt 28 (.slice (some ⟨g, o, none⟩) len cap) (.int .i64 (i : Int))).run Try.prog w = .ok (.pointer (some ⟨g, o + i, none⟩)) w := by
  have h := index_at (t := 28) (e := 5) (sz := 1) Try.underlying28 (by kernel_rfl) g o i len cap hi w
  rwa [Nat.mul_one] at h
theorem splice_set (l c : List Nat) (o j y : Nat) (h : o + c.length ≤ l.length) (hy : c[j]? = some y) : ((splice l o (c.take j)).map B8).set (o + j) (.int .u8 (y : Int)) = (splice l o (c.take (j + 1))).map B8 := by
  have hj : j < c.length := (List.getElem?_eq_some_iff.1 hy).1
  have l1 : (c.take j).length = j := by rw [List.length_take]; omega
  have l2 : (c.take (j + 1)).length = j + 1 := by rw [List.length_take]; omega
  have e : (.int .u8 (y : Int) : Value) = B8 y := rfl
  rw [e, ← List.map_set]
  congr 1
  refine List.ext_getElem? fun q => ?_
  rw [List.getElem?_set, splice_get _ _ _ _ (by omega), splice_get _ _ _ _ (by omega), l1, l2, splice_len _ _ _ (by omega)]
  by_cases h1 : o + j = q
  · rw [if_pos h1, if_pos (by omega), if_neg (by omega), if_pos (by omega), List.getElem?_take, if_pos (by omega), ← hy]
    congr 1
    omega
  · rw [if_neg h1]
    by_cases h2 : q < o
    · rw [if_pos h2, if_pos h2]
    · rw [if_neg h2, if_neg h2]
      by_cases h3 : q < o + j
      · rw [if_pos h3, if_pos (by omega), List.getElem?_take, List.getElem?_take, if_pos (by omega), if_pos (by omega)]
      · rw [if_neg h3, if_neg (by omega)]
section
variable {w : World} {a : Option Addr} {cap : Nat} {bs : List Nat}
set_option maxRecDepth 100000 in
set_option maxHeartbeats 1000000 in
theorem pmemStores_walk (li x : Int) (hS : Sl w a bs) (hl : bs.length ≤ 140737488355328) (hl1 : -9223372036854775808 ≤ li) (hl2 : li ≤ 9223372036854775807) (hx1 : -9223372036854775808 ≤ x) (hx2 : x ≤ 9223372036854775807) :
    Calls Try.prog 6 #[.int .i64 li, .int .i64 x, .slice a bs.length cap] w fun e w' => e = .returned (.bool true) ∧ Below w.heap.size w w' := by
  obtain ⟨i0, hi0, hz0, hz1, hz2⟩ := infoB
  have kw : ∀ W, Calls Try.prog 21 #[.int .i64 li, .int .i64 4] W fun e w' => ∃ r : Nat, r < 4 ∧ e = .returned (.int .i64 (r : Int)) ∧ w' = W := fun W => by
    refine (pwithin_any W li 4 (by omega) (by omega) hl1 hl2).mono ?_
    rintro e w' ⟨rfl, rfl⟩
    exact ⟨(li % 4).toNat, by omega, by rw [show (((li % 4).toNat : Nat) : Int) = li % 4 by omega], rfl⟩
  have KW := hide kw
  have HS := hide hS
  have HL := hide hl
  clear kw hS hl hl1 hl2
  generalize hn : bs.length = n at *
  have HNL := hide hn
  clear hn
  go_enter Try.func6, Try.ntmps6
  go_wp2_with (first | (go_at_call 8; refine (awake_any w).mono ?_; rintro e W1 ⟨rfl, hB⟩; have HB1 := hide hB; clear hB) | (go_at_call 21; refine (KW.out _).mono ?_; rintro e w' ⟨r, hr, rfl, hw⟩; obtain rfl := hw.symm; have rI : (r : Int) < 4 := (by omega)))
  try go_frame
  obtain ⟨m, hm⟩ : ∃ m : Nat, m = 1 + r := ⟨_, rfl⟩
  obtain ⟨N, hN⟩ : ∃ N : Nat, N = 64 * m := ⟨_, rfl⟩
  have hNI : (64 : Int) * (1 + (r : Int)) = (N : Int) := by omega
  rw [hNI]
  have NI : (N : Int) ≤ 256 := by omega
  have HN := hide hN
  have HM := hide hm
  have HR := hide hr
  clear hN hm hNI rI hr
  go_loopw [8, 9] (fun lv iv wr => ∃ i : Nat, iv = .int .i64 (i : Int) ∧ i ≤ N ∧ wr.ownsRow w.heap.size 5 1 lv i ((imgL i).map B8) ∧ Below w.heap.size w wr) (fun lv iv _ => (N - (intOf iv).toNat))
  case atStart => exact ⟨0, rfl, Nat.zero_le _, ⟨rfl, .inl ⟨rfl, rfl⟩⟩, HB1.out⟩
  case round =>
    obtain ⟨i, rfl, hi, hown, hB⟩ := hrel
    by_cases hlt : i < N
    · have iI : (i : Int) < (N : Int) := by omega
      have hcv : IntKind.u8.wrap ((i : Int) + 1) = (((i + 1) % 256 : Nat) : Int) := by
        show ((i : Int) + 1) % 256 = _
        omega
      have ho2 : (wr.alloc (.cells #[.int .u8 (((i + 1) % 256 : Nat) : Int)] 5)).ownsRow w.heap.size 5 1 u8 i ((imgL i).map B8) := ownsRow_of_block hown (fun g hg => (by obtain ⟨c, hc⟩ := own_type hown hg; exact ((Below.refl _ wr).alloc (Nat.le_refl _) _).block g (lt_of_heap hc)))
      have HO2 := hide ho2
      have HO1 := hide hown
      have HB := hide hB
      have HCV := hide hcv
      clear ho2 hown hB hcv
      go_wp2_with (at_builtin; refine wpList_append_own_at _ rfl _ _ 28 rfl w.heap.size 5 i0 (.int .u8 0) 1 1 Try.underlying28 hi0 hz0 hz1 hz2 rfl (by decide) u8 i ((imgL i).map B8) rfl HO2.out ⟨wr.heap.size, 0, none⟩ 1 1 [.int .u8 (((i + 1) % 256 : Nat) : Int)] rfl rfl (cell_one wr _ _) (by simp [Value.oneCell']) (by unfold maxLen; omega) (by omega) (size_one wr _ HB.out.size) ?_; intro v1 x1 ho3 hg3 hnn hat; clear hnn hat; have HO3 := hide ho3; have HG3 := hide hg3; clear ho3 hg3)
      have hbb : Below wr.heap.size wr (wr.alloc (.cells #[.int .u8 (((i : Int) + 1) % 256)] 5)) := (Below.refl _ wr).alloc (Nat.le_refl _) _
      have hown1 : ∀ g, u8.ownBlock = some g → w.heap.size ≤ g := fun g hg => by
        rcases HO1.out.2 with ⟨e1, _⟩ | ⟨g', cap, cur, e1, e2, _⟩
        · rw [e1] at hg; cases hg
        · rw [e1] at hg; cases hg; exact e2
      refine ⟨⟨i + 1, int_congrP (by omega), by omega, by rw [imgL_succ]; exact HO3.out, ?_⟩, by simp [intOf]; omega⟩
      have h7 := hbb
      have h8 := HG3.out
      have h9 := HB.out
      exact ⟨h8.os.trans (h7.os.trans h9.os), h8.tape.trans (h7.tape.trans h9.tape), h8.output.trans (h7.output.trans h9.output), Nat.le_trans h9.size (Nat.le_trans h7.size h8.size), fun g hg => (h8.block g (by have := h7.size; have := h9.size; omega) (fun e => by have := hown1 g e.symm; omega)).trans ((h7.block g (by have := h9.size; omega)).trans (h9.block g hg))⟩
    · have iI : ¬ (i : Int) < (N : Int) := by omega
      obtain rfl : i = N := by omega
      have hi1 : 64 ≤ i := by have := HN.out; have := HM.out; omega
      obtain ⟨g, cp, rfl⟩ : ∃ g cp, u8 = .slice (some ⟨g, 0, none⟩) i cp := by
        rcases hown.2 with ⟨_, e⟩ | ⟨g, cp, cur, e, _⟩
        · omega
        · exact ⟨g, cp, e⟩
      obtain ⟨hsl, hgB, hcp, cur, hcur, hcs⟩ := own_sl hown (imgL_lt i) (imgL_len i)
      have hm5 : m ≤ 65536 := by have := HM.out; have := HR.out; omega
      have hm1 : 1 ≤ m := by have := HM.out; omega
      have hok := fromD_ok hm1 hm5 ((imgL_len i).trans HN.out) (imgL_lt i)
      have k1 := copyBytes_any (some ⟨g, 0, none⟩) cp (imgL i) wr hsl (by rw [imgL_len]; omega)
      rw [imgL_len] at k1
      have k2 : ∀ W2, OwnB W2 wr.heap.size (imgL i) → Calls Try.prog 27 #[.slice (some ⟨wr.heap.size, 0, none⟩) i i] W2 fun e w' => ∃ b L, e = .returned (.tuple #[.pointer (some ⟨b, 0, none⟩), .int .i64 0]) ∧ DevL w' b L (fromD m (imgL i)) ∧ (∀ k, Foot b L (fromD m (imgL i)) k → W2.heap.size ≤ k) ∧ Below W2.heap.size W2 w' ∧ L.N = 0 := fun W2 ho => by
        have hsg : Seg W2 wr.heap.size 0 (imgL i) := fun q y hy => ⟨by rw [Nat.zero_add]; exact ho.cell q y hy, imgL_lt i y (List.mem_of_getElem? hy)⟩
        exact pfrom_any W2 wr.heap.size 0 i i m (imgL i) hsg ho.lt (imgL_len i) HN.out hm1 hm5 (imgL_lt i) (Nat.le_refl _)
      have hbw := HS.out.below hB
      have k3 : ∀ W3, Below w.heap.size w W3 → Calls Try.prog 28 #[.slice a n cap] W3 fun e w' => e = .returned (.slice (some ⟨W3.heap.size, 0, none⟩) n n) ∧ OwnB w' W3.heap.size bs ∧ Below W3.heap.size W3 w' := fun W3 h3 => by
        have h5 := copyBytes_any a cap bs W3 (HS.out.below h3) (by rw [HNL.out]; exact HL.out)
        rw [HNL.out] at h5
        exact h5
      by_cases hb : hasB (fromD m (imgL i)) x (n : Int) = true
      · obtain ⟨at_, rfl⟩ : ∃ at_ : Nat, x = (at_ : Int) := by
          unfold hasB at hb
          simp at hb
          exact ⟨x.toNat, by omega⟩
        have hat : at_ + n ≤ i := by
          have h5 := HN.out
          unfold hasB at hb
          have h6 : (fromD m (imgL i)).n = m := rfl
          rw [h6] at hb
          simp at hb
          omega
        have hc1 : ¬ (at_ : Int) < 0 := by omega
        have hc2 : ¬ (i : Int) < (at_ : Int) := by omega
        have hc3 : ¬ (i : Int) - (at_ : Int) < (n : Int) := by omega
        have hbl := HS.out.lt
        have K1 := hide k1
        have K2 := hide k2
        have K3 := hide k3
        have HB := hide hB
        have HOK := hide hok
        have HSL := hide hsl
        have HGB := hide hgB
        have HOWN := hide hown
        have HBL := hide hbl
        have HAT := hide hat
        have hiI : (i : Int) ≤ 256 := NI
        have M1 := hide (trivial : True)
        clear k1 k2 k3 hB hok hb hsl hgB hcur hown hbw hm1 hm5 hcp hcs hbl
        go_wp2_with (first
          | (go_at_call 28; clear M1; refine (K1.out).mono ?_; rintro e W2 ⟨rfl, ho2, hb2⟩; have KF := hide (K2.out W2 ho2); have HW2 := hide hb2; clear ho2 hb2)
          | (go_at_call 27; refine (KF.out).mono ?_; rintro e W3 ⟨b, L, rfl, hd, hf, hb3, hN3⟩; have hw3 : Below w.heap.size w W3 := (HB.out.trans (HW2.out.mono HB.out.size)).trans (hb3.mono (Nat.le_trans HB.out.size HW2.out.size)); have KC := hide (K3.out W3 hw3); have HD := hide hd; have HF := hide hf; have HW3 := hide hw3; have HB3 := hide hb3; have HN3 := hide hN3; clear hd hf hb3 hw3 hN3)
          | (go_at_call 28; refine (KC.out).mono ?_; rintro e W4 ⟨rfl, ho4, hb4⟩; have hd4 := HD.out.below hb4; have ks := psto_any (a := some ⟨W3.heap.size, 0, none⟩) (bs := bs) at_ n hd4 HOK.out rfl (by rw [HN3.out]; exact Nat.zero_le _) rfl (by show 0 + 600000 ≤ _; omega) (ho4.sl HBL.out) (by rw [HNL.out]; exact Nat.le_refl _) (by rw [HNL.out]; show _ ≤ 64 * m; rw [← HN.out]; exact HAT.out) (fun ad he => by cases he; exact ⟨ho4.lt, fun hf => by have := HD.out.foot_is hf; simp at this⟩); rw [HNL.out] at ks; have KS := hide ks; have HW4 := hide hb4; clear ho4 hb4 hd4 ks)
          | (go_at_call 29; refine (KS.out).mono ?_; rintro e W5 ⟨rfl, L5, hd5, hf5, hg5, hN5, hs5⟩; have HD5 := hide hd5; have HF5 := hide hf5; have HG5 := hide hg5; clear hd5 hf5 hg5 hN5 hs5))
        have hgl : g < wr.heap.size := by
          rcases HSL.out with e | ⟨g', o', e, h5, _⟩
          · have h6 := congrArg List.length e
            rw [imgL_len] at h6
            simp at h6
            omega
          · cases e
            exact h5
        have hb24 : Below wr.heap.size wr W4 := (HW2.out.trans (HB3.out.mono HW2.out.size)).trans (HW4.out.mono (Nat.le_trans HW2.out.size HB3.out.size))
        have hnf : ∀ k, Foot b L5 (writeDo bs at_ (fromD m (imgL i)) (wordsOf at_ n)) k → k ≠ g ∧ w.heap.size ≤ k := fun k hk => by
          have s1 := HW2.out.size
          have s2 := hb24.size
          have s3 := HB.out.size
          rcases HF5.out k hk with h5 | h5
          · have := HF.out k h5; exact ⟨by omega, by omega⟩
          · exact ⟨by omega, by omega⟩
        have hg4 : W4.heap[g]? = wr.heap[g]? := hb24.block g hgl
        have hg5 : W5.heap[g]? = wr.heap[g]? := (HG5.out.block (by have := hb24.size; omega) (fun hf => by have := HF.out g hf; have := HW2.out.size; omega)).trans hg4
        have hown5 : W5.ownsRow w.heap.size 5 1 (.slice (some ⟨g, 0, none⟩) i cp) i ((splice (imgL i) at_ (bs.take 0)).map B8) := by
          rw [List.take_zero, splice_nil]
          exact ownsRow_of_block HOWN.out (fun g' hg' => by cases hg'; exact hg5)
        have hbw5 : Below w.heap.size w W5 := by
          have h5 := HG5.out
          have h6 : Below w.heap.size w W4 := HB.out.trans (hb24.mono HB.out.size)
          exact ⟨h5.1.trans h6.os, h5.2.1.trans h6.tape, h5.2.2.1.trans h6.output, Nat.le_trans h6.size h5.size, fun k hk => (h5.block (Nat.lt_of_lt_of_le hk h6.size) (fun hf => by have := HF.out k hf; have := HW2.out.size; have := HB.out.size; omega)).trans (h6.block k hk)⟩
        have HNF := hide hnf
        have HO5 := hide hown5
        have HW5 := hide hbw5
        clear hgl hb24 hnf hg4 hg5 hown5 hbw5 KF KC KS K1 K2 K3 HSL HOWN
        have hd1 : decide ((at_ : Int) < 0) = false := decide_eq_false (by omega)
        have hd2 : decide (i < at_) = false := decide_eq_false (by have := HAT.out; omega)
        have hd3 : decide ((i : Int) - (at_ : Int) < (n : Int)) = false := decide_eq_false (by omega)
        simp only [hd1, hd2, hd3, Bool.or_self]
        clear hd1 hd2 hd3
        go_loopw [12, 13] (fun wv jv ws => ∃ j : Nat, jv = .int .i64 (j : Int) ∧ wv = .int .i64 (cntW at_ j : Int) ∧ j ≤ n ∧ ws.ownsRow w.heap.size 5 1 (.slice (some ⟨g, 0, none⟩) i cp) i ((splice (imgL i) at_ (bs.take j)).map B8) ∧ Gr (fun k => k = g) W5 ws) (fun wv jv _ => (n - (intOf jv).toNat))
        case atStart => exact ⟨0, rfl, rfl, Nat.zero_le _, HO5.out, Gr.refl _ _⟩
        case round =>
          obtain ⟨j, rfl, rfl, hj, hown, hgr⟩ := hrel
          have hbw : Below w.heap.size w wr := by
            have h5 := hgr
            have h6 := HW5.out
            exact ⟨h5.1.trans h6.os, h5.2.1.trans h6.tape, h5.2.2.1.trans h6.output, Nat.le_trans h6.size h5.size, fun k hk => (h5.block (Nat.lt_of_lt_of_le hk h6.size) (by have := HGB.out; omega)).trans (h6.block k hk)⟩
          have hcb : cntW at_ j ≤ 300 := by have := HAT.out; unfold cntW; split <;> omega
          by_cases hlt : j < n
          · obtain ⟨y, hy⟩ : ∃ y, bs[j]? = some y := ⟨_, List.getElem?_eq_getElem (by rw [HNL.out]; exact hlt)⟩
            obtain ⟨ab, ao, rfl, hcell⟩ : ∃ ab ao, a = some ⟨ab, ao, none⟩ ∧ wr.cell? ⟨ab, ao + j, none⟩ = some (.int .u8 (y : Int)) := by
              rcases HS.out.below hbw with e | ⟨ab, ao, e, _, h5⟩
              · rw [e] at hy; simp at hy
              · exact ⟨ab, ao, e, (h5 j y hy).1⟩
            obtain ⟨cur, hcur, hcs⟩ : ∃ cur, wr.heap[g]? = some (.cells cur 5 (0, 0)) ∧ i ≤ cur.size := by
              rcases hown.2 with ⟨e, _⟩ | ⟨g', cap', cur, e, h1, h2, h3, _, h4, h5⟩
              · cases e
              · cases e; exact ⟨cur, h2, by omega⟩
            have hat := HAT.out
            obtain ⟨u, hu⟩ : ∃ u, cur[at_ + j]? = some u := ⟨_, Array.getElem?_eq_getElem (by omega)⟩
            have cg : wr.cell? ⟨g, at_ + j, none⟩ = some u := (cell8 hcur _).trans hu
            have fg := froz8 hcur (at_ + j)
            have l1 := fun X => index_byte ab ao j n cap hlt X
            have l2 := fun X => index_byte g 0 (at_ + j) i cp (by omega) X
            have e2 : ((at_ + j : Nat) : Int) = (at_ : Int) + (j : Int) := by omega
            simp only [Nat.zero_add, e2] at l2
            have hnew := (hown.stored (at_ + j) (.int .u8 (y : Int))).1
            rw [splice_set (imgL i) bs at_ j y (by rw [imgL_len, HNL.out]; omega) hy] at hnew
            have HNEW := hide hnew
            have HGR := hide (hgr.trans (Gr.set wr g (at_ + j) (.int .u8 (y : Int)) (X := fun k => k = g) rfl) (fun k h => .inl h))
            have jI : (j : Int) < (n : Int) := by omega
            have ajI : (at_ : Int) + (j : Int) ≤ 256 := by omega
            have htm : ((at_ : Int) + (j : Int)).tmod 8 = (((at_ + j) % 8 : Nat) : Int) := by rw [Int.tmod_eq_emod_of_nonneg (by omega)]; omega
            have cI : (cntW at_ j : Int) ≤ 300 := by omega
            clear hy hcur hcs hu hown hgr hbw e2 hnew
            go_wp2
            · rename_i h0
              subst h0
              have e1 : ((cntW at_ 1 : Nat) : Int) = 1 := by rw [show (1 : Nat) = 0 + 1 from rfl, cntW_more (.inl rfl)]; rfl
              try go_frame
              go_roundw
              case rel => exact ⟨1, rfl, int_congrP (by rw [e1, show ((cntW at_ 0 : Nat) : Int) = 0 from rfl]; simp [wrap64]), by omega, HNEW.out, HGR.out⟩
              case measure => simp [intOf]; omega
            · rename_i h0 h1
              have e1 : cntW at_ (j + 1) = cntW at_ j + 1 := cntW_more (by simp at h1; omega)
              try go_frame
              go_roundw
              case rel => exact ⟨j + 1, int_congrP (by omega), int_congrP (by omega), by omega, HNEW.out, HGR.out⟩
              case measure => simp [intOf]; omega
            · rename_i h0 h1
              have e1 : cntW at_ (j + 1) = cntW at_ j := cntW_same h0 (by simp at h1; omega)
              try go_frame
              go_roundw
              case rel => exact ⟨j + 1, int_congrP (by omega), int_congrP (by omega), by omega, HNEW.out, HGR.out⟩
              case measure => simp [intOf]; omega
          · have jI : ¬ (j : Int) < (n : Int) := by omega
            obtain rfl : j = n := by omega
            have hat := HAT.out
            have hnn := HN.out
            have hmm := HM.out
            have hrr := HR.out
            have hlk := write_like (at_ := at_) HBL.out (wordsOf at_ j) (fromD m (imgL i)) HOK.out (wordsOf_lt (by show at_ + j ≤ 64 * m; omega) (by show m ≤ 65536; omega)) (by rw [cntW_all at_ j (by omega)]; show 0 + cntW at_ j ≤ 274877906944; omega)
            rw [cntW_all at_ j (by omega)] at hlk
            have hsb := store_bytes (at_ := at_) HBL.out HOK.out (by show at_ + bs.length ≤ 64 * m; rw [HNL.out]; omega) (by show 0 + 600000 ≤ _; omega)
            rw [HNL.out] at hsb
            generalize writeDo bs at_ (fromD m (imgL i)) (wordsOf at_ j) = σ5 at *
            have hd : DevL wr b L5 σ5 := HD5.out.keep (fun k hk => hgr.block (HD5.out.foot_is hk) (HNF.out k hk).1)
            have hn5 : σ5.n = m := hlk.n
            have ho5 : σ5.ops = cntW at_ j := by rw [hlk.ops]; show 0 + _ = _; omega
            have kl := callsIn_wide.1 (pload_in (at_ := at_) (n := j) hd hlk.ok (by rw [hlk.off]; rfl) (by rw [hn5]; omega))
            have hbb : (σ5.bytes.drop at_).take j = bs := by
              rw [hsb]
              have hbl := HNL.out
              refine List.ext_getElem? fun q => ?_
              rw [List.getElem?_take, List.getElem?_drop, splice_get _ _ _ _ (by rw [hbl]; show _ ≤ (imgL i).length; rw [imgL_len]; omega)]
              split
              · rw [if_neg (by omega), if_pos (by omega)]
                congr 1
                omega
              · rw [List.getElem?_eq_none (by omega)]
            rw [hbb] at kl
            have hrow : Sl wr (some ⟨g, 0, none⟩) (splice (imgL i) at_ bs) := by
              have h5 := hown
              rw [List.take_of_length_le (by rw [HNL.out]; exact Nat.le_refl _)] at h5
              exact (own_sl h5 (fun x hx => (splice_mem hx).elim (imgL_lt i x) (HBL.out x)) (by rw [splice_len _ _ _ (by rw [HNL.out, imgL_len]; omega), imgL_len])).1
            have hsl5 : (splice (imgL i) at_ bs).length = i := by rw [splice_len _ _ _ (by rw [HNL.out, imgL_len]; omega), imgL_len]
            have hsz : 64 * σ5.n = i := by rw [hn5]; omega
            have HD := hide hd
            have HLK := hide hlk
            have HO5b := hide ho5
            have KL := hide kl
            have HROW := hide hrow
            have HSB := hide hsb
            have HS5 := hide hsl5
            have HSZ := hide hsz
            have HBW := hide hbw
            have cI : (cntW at_ j : Int) ≤ 300 := by omega
            have M2 := hide (trivial : True)
            clear hat hnn hmm hrr hlk hsb hd hn5 ho5 kl hbb hrow hsl5 hsz hbw hown hgr
            go_wp2_with (first
              | (go_at_call 10; refine (KL.out).mono ?_; rintro e W7 ⟨R, rfl, hR1, hR2, hR3⟩; have ke := eqBytes_any (some ⟨R, 0, none⟩) a j cap bs bs W7 (OwnB.sl (show OwnB W7 R bs from hR2) HBL.out) (HS.out.below (HBW.out.trans (hR3.mono HBW.out.size))) (by rw [HNL.out]; have := HL.out; omega); rw [HNL.out] at ke; have KE := hide ke; have HR3 := hide hR3; clear hR1 hR2 hR3 ke)
              | (go_at_call 19; clear M2; refine (KE.out).mono ?_; rintro e w' ⟨rfl, nq, rfl⟩; have hd7 := (HD.out.below HR3.out).below (below_drewN (Below.refl _ W7) nq); have ko := pops_any hd7; rw [HO5b.out] at ko; have KO := hide ko; have ki := pimg_any hd7 HLK.out.ok; rw [HSZ.out] at ki; have KI := hide ki; clear ko ki hd7)
              | (go_at_call 24; refine (KO.out).mono ?_; rintro e w' ⟨rfl, hw⟩; obtain rfl := hw)
              | (go_at_call 16; refine (KI.out).mono ?_; rintro e W8 ⟨rfl, ho8, hb8⟩; have hb78 : Below wr.heap.size wr W8 := (HR3.out.trans ((below_drewN (Below.refl _ W7) nq).mono HR3.out.size)).trans (hb8.mono HR3.out.size); rw [HSB.out] at ho8; have ke := eqBytes_any (some ⟨(W7.drewN nq).heap.size, 0, none⟩) (some ⟨g, 0, none⟩) i cp (splice (imgL i) at_ bs) (splice (imgL i) at_ bs) W8 (OwnB.sl ho8 (fun x hx => (splice_mem hx).elim (imgL_lt i x) (HBL.out x))) (HROW.out.below hb78) (by rw [HS5.out]; omega); rw [HS5.out] at ke; have KE2 := hide ke; have HB8 := hide (HBW.out.trans (hb78.mono HBW.out.size)); clear ho8 hb8 hb78 ke)
              | (go_at_call 19; refine (KE2.out).mono ?_; rintro e w' ⟨rfl, nq2, rfl⟩))
            go_ret
            exact ⟨by simp, below_drewN HB8.out nq2⟩
      · have hb2 : hasB (fromD m (imgL i)) x (n : Int) = false := by simpa using hb
        have hcond : x < 0 ∨ (¬ x < 0 ∧ (i : Int) < x) ∨ (¬ x < 0 ∧ ¬ (i : Int) < x ∧ (i : Int) - x < (n : Int)) := by
          have h5 := HN.out
          unfold hasB at hb2
          have h6 : (fromD m (imgL i)).n = m := rfl
          rw [h6] at hb2
          simp at hb2
          omega
        have K1 := hide k1
        have K2 := hide k2
        have K3 := hide k3
        have HB := hide hB
        have HOK := hide hok
        have HB2 := hide hb2
        have HSL := hide hsl
        have HGB := hide hgB
        have HCUR := hide hcur
        have hiI : (i : Int) ≤ 256 := NI
        have M1 := hide (trivial : True)
        clear k1 k2 k3 hB hok hb2 hb hsl hgB hcur hown hbw hm1 hm5 hcp hcs
        rcases hcond with hc1 | ⟨hc1, hc2⟩ | ⟨hc1, hc2, hc3⟩
        all_goals
          go_wp2_with (first
            | (go_at_call 28; clear M1; refine (K1.out).mono ?_; rintro e W2 ⟨rfl, ho2, hb2⟩; have KF := hide (K2.out W2 ho2); have HW2 := hide hb2; clear ho2 hb2)
            | (go_at_call 27; refine (KF.out).mono ?_; rintro e W3 ⟨b, L, rfl, hd, hf, hb3, hN3⟩; have hw3 : Below w.heap.size w W3 := (HB.out.trans (HW2.out.mono HB.out.size)).trans (hb3.mono (Nat.le_trans HB.out.size HW2.out.size)); have KC := hide (K3.out W3 hw3); have HD := hide hd; have HF := hide hf; have HW3 := hide hw3; have HB3 := hide hb3; have HN3 := hide hN3; clear hd hf hb3 hw3 hN3)
            | (go_at_call 28; refine (KC.out).mono ?_; rintro e W4 ⟨rfl, ho4, hb4⟩; have hd4 := HD.out.below hb4; have KS := hide (psto_out (a := some ⟨W3.heap.size, 0, none⟩) x n n hd4 HOK.out rfl hx1 hx2 HB2.out); have KO := hide (pops_any hd4); have ki := pimg_any hd4 HOK.out; rw [(show 64 * (fromD m (imgL i)).n = i from HN.out.symm)] at ki; have KI := hide ki; clear ki; have HO4 := hide ho4; have HW4 := hide hb4; clear ho4 hb4 hd4)
            | (go_at_call 29; refine (KS.out).mono ?_; rintro e w' ⟨rfl, hw⟩; obtain rfl := hw.symm)
            | (go_at_call 24; refine (KO.out).mono ?_; rintro e w' ⟨rfl, hw⟩; obtain rfl := hw.symm)
            | (go_at_call 16; refine (KI.out).mono ?_; rintro e W5 ⟨rfl, ho5, hb5⟩; have hb25 : Below wr.heap.size wr W5 := ((HW2.out.trans (HB3.out.mono HW2.out.size)).trans (HW4.out.mono (Nat.le_trans HW2.out.size HB3.out.size))).trans (hb5.mono (Nat.le_trans (Nat.le_trans HW2.out.size HB3.out.size) HW4.out.size)); have ke := eqBytes_any (some ⟨W4.heap.size, 0, none⟩) (some ⟨g, 0, none⟩) i cp (imgL i) (imgL i) W5 (OwnB.sl ho5 (imgL_lt i)) (HSL.out.below hb25) (by rw [imgL_len]; omega); rw [imgL_len] at ke; have KE := hide ke; have HW5 := hide (HB.out.trans (hb25.mono HB.out.size)); clear ho5 hb5 hb25 ke)
            | (go_at_call 19; refine (KE.out).mono ?_; rintro e W6 ⟨rfl, nq, rfl⟩))
          go_ret
          exact ⟨by simp, below_drewN HW5.out nq⟩
end
end Go.Proofs.Ytkdonacnnienaaa
