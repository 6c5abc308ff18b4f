/- Package ulog: Records, where records lie. -/
import Derived.Test.YtadmekikdaocoaaUgEM
import Derived.Test.YtadmekikdaocoaaQPut32M
import Derived.Laws.ResultCell
import Derived.Lib.ConvBytes
namespace Go.Proofs.Ytadmekikdaocoaa
open Go.RowKit Go.Shelf
set_option linter.unusedVariables false
set_option maxRecDepth 100000

/-- A row of extents. -/
def SlE (w : World) (a : Option Addr) (xs : List (Int × Int)) : Prop := (∀ x ∈ xs, (-9223372036854775808 ≤ x.1 ∧ x.1 ≤ 9223372036854775807) ∧ (-9223372036854775808 ≤ x.2 ∧ x.2 ≤ 9223372036854775807)) ∧ (xs = [] ∨ ∃ g o c, a = some ⟨g, o, none⟩ ∧ w.heap[g]? = some (.cells c 58 (0, 0)) ∧ ∀ (i : Nat) (x l : Int), xs[i]? = some (x, l) → c[o + i * 2]? = some (.int .i64 x) ∧ c[o + i * 2 + 1]? = some (.int .i64 l))
theorem ext_nd : NDt 58 := ⟨by decide, by decide, by decide, by decide, by decide, by decide⟩
theorem SlE.below {w w' : World} {a : Option Addr} {xs : List (Int × Int)} (h : SlE w a xs) (hB : Below w.heap.size w w') : SlE w' a xs := by
  refine ⟨h.1, h.2.imp id ?_⟩
  rintro ⟨g, o, c, h1, h2, h3⟩
  exact ⟨g, o, c, h1, (hB.block g (lt_of_heap h2)).trans h2, h3⟩
theorem SlE.atd {w w' : World} {b m : Nat} {L : Lay} {σ s : St} {a : Option Addr} {xs : List (Int × Int)} (h : SlE w a xs) (hd : DevL w b L σ) (ha : Atd w b L σ w' s m) : SlE w' a xs := by
  refine ⟨h.1, h.2.imp id ?_⟩
  rintro ⟨g, o, c, h1, h2, h3⟩
  exact ⟨g, o, c, h1, ha.kept hd h2 ext_nd, h3⟩
theorem SlE.at {w : World} {a : Option Addr} {xs : List (Int × Int)} (h : SlE w a xs) {i : Nat} {x l : Int} (hi : xs[i]? = some (x, l)) : ∃ g o, a = some ⟨g, o, none⟩ ∧ w.cell? ⟨g, o + i * 2, none⟩ = some (.int .i64 x) ∧ w.cell? ⟨g, o + i * 2 + 1, none⟩ = some (.int .i64 l) := by
  rcases h.2 with h0 | ⟨g, o, c, h1, h2, h3⟩
  · rw [h0] at hi; cases hi
  · obtain ⟨q1, q2⟩ := h3 i x l hi
    exact ⟨g, o, h1, (cell8 h2 _).trans q1, (cell8 h2 _).trans q2⟩
theorem index_ext (g o i len cap : Nat) (hi : i < len) (w : World) : (Instr.indexAt 22 (.slice (some ⟨g, o, none⟩) len cap) (.int .i64 (i : Int))).run Try.prog w = .ok (.pointer (some ⟨g, o + i * 2, none⟩)) w :=
  index_at (t := 22) (e := 58) (sz := 2) Try.underlying22 (by kernel_rfl) g o i len cap hi w
def I8 (z : Int) : Value := .int .i64 z
theorem infoI8 : ∃ i, Try.prog.info? 3 = some i ∧ i.zero = some (.int .i64 0) ∧ i.size = 1 ∧ i.bytes = 8 := by
  have h : (Try.prog.info? 3).map (fun i => (i.zero, i.size, i.bytes)) = some (some (.int .i64 0), 1, 8) := by kernel_rfl
  cases hq : Try.prog.info? 3 with
  | none => rw [hq] at h; cases h
  | some i => rw [hq] at h; simp at h; exact ⟨i, rfl, h.1, h.2.1, h.2.2⟩
def allMay (a z N : Nat) (xs : List (Int × Int)) : Bool := xs.all (fun x => mayV a z N x.1 x.2)
/-- What need answers. -/
def needX (a z N : Nat) (xs : List (Int × Int)) : Int × Int :=
  if allMay a z N xs = true then (if (needV 0 (xs.map Prod.snd)).2 ≠ 0 ∨ (z : Int) - 64 < (needV 0 (xs.map Prod.snd)).1 then (0, 111) else ((needV 0 (xs.map Prod.snd)).1, 0)) else (0, 6)
theorem allMay_no {a z N : Nat} {xs : List (Int × Int)} {i : Nat} {x l : Int} (hi : xs[i]? = some (x, l)) (h : mayV a z N x l = false) : allMay a z N xs = false := by
  unfold allMay
  refine Bool.eq_false_iff.2 fun ht => ?_
  have := List.all_eq_true.1 ht (x, l) (List.mem_of_getElem? hi)
  simp only at this
  rw [h] at this
  cases this
theorem allMay_yes {a z N : Nat} {xs : List (Int × Int)} (h : ∀ (i : Nat) (x l : Int), xs[i]? = some (x, l) → mayV a z N x l = true) : allMay a z N xs = true := by
  unfold allMay
  refine List.all_eq_true.2 fun x hx => ?_
  obtain ⟨i, hi⟩ := List.getElem?_of_mem hx
  exact h i x.1 x.2 hi
theorem needV_b : ∀ (zs : List Int) (s : Int), 0 ≤ s → s ≤ 9223372036854775807 → 0 ≤ (needV s zs).1 ∧ (needV s zs).1 ≤ 9223372036854775807
  | [], s, h0, h1 => ⟨h0, h1⟩
  | n :: t, s, h0, h1 => by
    unfold needV
    split
    · simp
    · rename_i hc
      have h2 : (roundV n 8).2 = 0 := by
        refine Classical.byContradiction fun h => hc (.inr (.inl h))
      have h3 : ¬ n < 1 := fun h => hc (.inl h)
      have h4 : ¬ 9223372036854775783 - s < (roundV n 8).1 := fun h => hc (.inr (.inr h))
      rcases roundV_ge n h2 with ⟨h5, h6, h7⟩ | h5
      · exact needV_b t _ (by omega) (by omega)
      · exfalso
        unfold roundV at h2 h4
        rw [if_neg (by omega)] at h2 h4
        split at h4
        · simp at h4; omega
        · split at h4
          · rename_i q1 q2
            rw [if_neg q1, if_pos q2] at h2
            simp at h2
          · rename_i q1 q2
            simp at h4
            omega
set_option maxHeartbeats 1000000 in
theorem lneed_any {w : World} {g b a z : Nat} {L : Lay} {σ : St} {ea : Option Addr} {xs : List (Int × Int)} (cap m : Nat) (h : LogL w g b a z) (hd : DevL w b L σ) (hmx : σ.n ≤ 65536) (haz : a + z ≤ 4194304) (hz : 64 ≤ z) (he : SlE w ea xs) (hm : xs.length = m) (hl : m ≤ 8796093022208) :
    Calls Try.prog 31 #[.pointer (some ⟨g, 0, none⟩), .slice ea m cap] w fun e w' => e = .returned (.tuple #[.int .i64 (needX a z σ.n xs).1, .int .i64 (needX a z σ.n xs).2]) ∧ Below w.heap.size w w' := by
  obtain ⟨i0, hi0, hz0, hz1, hz2⟩ := infoI8
  have hmk : ∀ w : World, Sem.run Try.prog (Instr.makeSlice 51 (.int .i64 0) (.int .i64 (m : Int))) w = .ok (.slice (some ⟨w.heap.size, 0, none⟩) 0 m) (w.alloc (.cells (madeCells #[.int .i64 0] m) 3)) := fun w => by
    have h := run_make (P := Try.prog) w 51 3 i0 (.int .i64 0) Try.underlying51 hi0 hz0 .i64 .i64 0 m (by omega) (by omega) (by rw [hz2]; omega) (by omega)
    simp only [Int.toNat_zero, Int.toNat_natCast, hz1, Nat.mul_one] at h
    exact h
  have hO : (w.alloc (.cells (madeCells #[.int .i64 0] m) 3)).ownsRow w.heap.size 3 1 (.slice (some ⟨w.heap.size, 0, none⟩) 0 m) 0 [] :=
    World.ownsRow_made w _ m (Nat.le_refl _) (by unfold maxLen; omega) (by simp [size_madeCells])
  have hB : Below w.heap.size w (w.alloc (.cells (madeCells #[.int .i64 0] m) 3)) := (Below.refl _ _).alloc (Nat.le_refl _) _
  have hmk0 := hmk w
  generalize madeCells #[.int .i64 0] m = MC at *
  obtain ⟨V, hV⟩ : ∃ V, needX a z σ.n xs = V := ⟨_, rfl⟩
  rw [hV]
  have HV := hide hV
  have HL := hide h
  have HE := hide he
  have HM := hide hm
  have KM := hide (fun W (hB : Below w.heap.size w W) (x l : Int) (hx) (hl) => lmay_any x l (h.below hB) (hd.below hB) hmx haz hx hl)
  have KN := hide (fun (W : World) (v : Option Addr) (c : Nat) (zs : List Int) (hz : SlZ W v zs) (hzl : zs.length = m) => need_any c m hz hzl (by omega))
  have HO := hide hO
  have HB := hide hB
  have mI : (m : Int) ≤ 8796093022208 := by omega
  have hnv := needV_b (xs.map Prod.snd) 0 (by omega) (by omega)
  have HNV := hide hnv
  clear h hd he hm hO hB hV hmk hnv
  go_enter Try.func31, Try.ntmps31
  go_wp2
  clear hmk0
  go_loopw [6, 16] (fun lv iv wr => ∃ (j : Nat) (lc : Nat) (la : Option Addr), iv = .int .i64 (j : Int) ∧ lv = .slice la j lc ∧ j ≤ m ∧ wr.ownsRow w.heap.size 3 1 lv j (((xs.map Prod.snd).take j).map I8) ∧ Below w.heap.size w wr ∧ ∀ (i : Nat) (x l : Int), i < j → xs[i]? = some (x, l) → mayV a z σ.n x l = true) (fun lv iv _ => (m - (intOf iv).toNat))
  case atStart => exact ⟨0, m, _, rfl, rfl, Nat.zero_le _, HO.out, HB.out, fun i x l hi => by omega⟩
  case round =>
    obtain ⟨j, lc, la, rfl, rfl, hj, hown, hB, hall⟩ := hrel
    have HALL := hide hall
    clear hall
    by_cases hlt : j < m
    · obtain ⟨⟨x, l⟩, hx⟩ : ∃ x, xs[j]? = some x := ⟨_, List.getElem?_eq_getElem (by rw [HM.out]; exact hlt)⟩
      obtain ⟨eg, eo, hea, hc0, hc1⟩ := (HE.out.below hB).at hx
      subst hea
      have hxb := HE.out.1 _ (List.mem_of_getElem? hx)
      have ix := fun X => index_ext eg eo j m cap hlt X
      have jI : (j : Int) < (m : Int) := by omega
      have hB1 : Below wr.heap.size wr (wr.alloc (.cells #[.int .i64 x, .int .i64 l] 58)) := (Below.refl _ wr).alloc (Nat.le_refl _) _
      have hbw := bseq hB hB1
      have KMx := hide (KM.out _ hbw x l hxb.1 hxb.2)
      have HX := hide hx
      have hnew := heap_alloc_new wr (.cells #[.int .i64 x, .int .i64 l] 58)
      have HNEW := hide hnew
      have HOWN := hide hown
      have HBW := hide hbw
      have HB1 := hide hB1
      obtain ⟨mv, hmv⟩ : ∃ mv, mayV a z σ.n x l = mv := ⟨_, rfl⟩
      rw [hmv] at KMx
      clear hown hB hbw hB1 hnew hx hxb
      cases mv with
      | false =>
        have e : V = (0, 6) := by
          rw [← HV.out]
          unfold needX
          rw [allMay_no HX.out hmv]
          rfl
        subst e
        go_wp2_with (go_at_call 54; refine (KMx.out).mono ?_; rintro e W1 ⟨rfl, hb⟩; have HW1 := hide (bseq HBW.out hb); clear hb)
        go_ret2
        exact ⟨rfl, HW1.out⟩
      | true =>
        go_upto_region 7 with (go_at_call 54; refine (KMx.out).mono ?_; rintro e W1 ⟨rfl, hb⟩; have HW1 := hide (bseq HBW.out hb); have HW0 := hide (bseq HB1.out hb); have HR := hide (row_keepU HNEW.out hb); clear hb)
        have c1 : W1.cell? ⟨wr.heap.size, 1, none⟩ = some (.int .i64 l) := cell8 HR.out 1
        have hA2 : Below W1.heap.size W1 (W1.alloc (.cells #[.int .i64 l] 3)) := (Below.refl _ W1).alloc (Nat.le_refl _) _
        have ho2 : (W1.alloc (.cells #[.int .i64 l] 3)).ownsRow w.heap.size 3 1 (.slice la j lc) j (((xs.map Prod.snd).take j).map I8) := ownsRow_of_block HOWN.out (fun g hg => by
          obtain ⟨c', hc'⟩ := own_type HOWN.out hg
          exact (bseq HW0.out hA2).block g (lt_of_heap hc'))
        have hts : ((xs.map Prod.snd).take (j + 1)).map I8 = ((xs.map Prod.snd).take j).map I8 ++ [.int .i64 l] := by
          rw [List.take_add_one, List.getElem?_map, HX.out]
          simp [I8]
        have HTS := hide hts
        have HO2 := hide ho2
        have HB2 := hide (bseq HW1.out hA2)
        have HMV := hide hmv
        have hsz : w.heap.size ≤ (W1.alloc (.cells #[.int .i64 l] 3)).heap.size := HB2.out.size
        clear ho2 hts hA2 hmv
        go_wp2_with (at_builtin; refine wpList_append_own_at _ rfl _ _ 51 rfl w.heap.size 3 i0 (.int .i64 0) 1 8 Try.underlying51 hi0 hz0 hz1 hz2 rfl (by decide) (.slice la j lc) j (((xs.map Prod.snd).take j).map I8) rfl HO2.out ⟨W1.heap.size, 0, none⟩ 1 1 [.int .i64 l] rfl rfl (cell_oneU W1 _ _) (by simp [Value.oneCell']) (by unfold maxLen; omega) (by omega) hsz ?_; intro v1 x1 ho3 hg3 hnn hat3; clear hnn hat3; have HO3 := hide ho3; have HG3 := hide hg3; clear ho3 hg3)
        obtain ⟨la3, lc3, rfl⟩ := own_slice HO3.out
        go_roundw
        case rel =>
          refine ⟨j + 1, lc3, la3, int_congrP (by omega), rfl, by omega, by rw [HTS.out]; exact HO3.out, ?_, fun i x' l' hi hx' => ?_⟩
          · have h8 := HG3.out
            have h9 := HB2.out
            refine ⟨h8.os.trans h9.os, h8.tape.trans h9.tape, h8.output.trans h9.output, Nat.le_trans h9.size h8.size, fun k hk => (h8.block k (Nat.lt_of_lt_of_le hk h9.size) (fun e => ?_)).trans (h9.block k hk)⟩
            rcases HO2.out.2 with ⟨e1, _⟩ | ⟨g', cap', cur, e1, e2, _⟩
            · rw [e1] at e; cases e
            · rw [e1] at e; cases e; exact absurd hk (Nat.not_lt.2 e2)
          · by_cases e : i = j
            · subst e
              rw [HX.out] at hx'
              cases hx'
              exact HMV.out
            · exact HALL.out i x' l' (by omega) hx'
        case measure => simp [intOf]; omega
    · have jI : ¬ (j : Int) < (m : Int) := by omega
      obtain rfl : j = m := by omega
      have hfull : (xs.map Prod.snd).take j = xs.map Prod.snd := List.take_of_length_le (by rw [List.length_map, HM.out]; exact Nat.le_refl _)
      rw [hfull] at hown
      have hyes := allMay_yes (a := a) (z := z) (N := σ.n) (xs := xs) (fun i x l hx => HALL.out i x l (by have := (List.getElem?_eq_some_iff.1 hx).1; have := HM.out; omega) hx)
      have hsz : SlZ wr la (xs.map Prod.snd) := by
        refine ⟨fun zv hzv => ?_, ?_⟩
        · obtain ⟨p, hp, rfl⟩ := List.mem_map.1 hzv
          exact (HE.out.1 p hp).2
        · rcases hown.2 with ⟨e1, e2⟩ | ⟨g', cap', cur, e1, e2, e3, e4, e5, e6, e7⟩
          · left
            refine List.eq_nil_of_length_eq_zero ?_
            rw [List.length_map, HM.out]
            exact e2
          · right
            cases e1
            refine ⟨g', 0, rfl, lt_of_heap e3, fun i zv hi => ?_⟩
            rw [Nat.zero_add, cell8 e3]
            have h9 : (cur.toList.take (j * 1))[i]? = some (.int .i64 zv) := by rw [e7, List.getElem?_map, hi]; rfl
            rw [List.getElem?_take] at h9
            split at h9
            · simpa using h9
            · cases h9
      have KNx := hide (KN.out wr la lc (xs.map Prod.snd) hsz (by rw [List.length_map]; exact HM.out))
      have KE := hide (lend_any (HL.out.below hB) haz)
      have KR := hide (lroom_any (HL.out.below (bseq hB (Below.refl _ wr).drew)) (by omega))
      have hB' := hB
      have hv := HV.out
      unfold needX at hv
      rw [hyes] at hv
      simp only [if_true] at hv
      obtain ⟨nb0, nb1⟩ := HNV.out
      obtain ⟨r, c, hrc⟩ : ∃ r c, needV 0 (xs.map Prod.snd) = (r, c) := ⟨_, _, rfl⟩
      rw [hrc] at hv KNx nb0 nb1
      simp only at hv nb0 nb1
      have HVV := hide hv
      have HB' := hide hB
      have wm : IntKind.i64.wrap (((a + z : Nat) : Int) - ((a + 64 : Nat) : Int)) = (z : Int) - 64 := by rw [IntKind.wrap_i64]; omega
      clear hown hyes hsz hB hB' hv hfull
      by_cases q1 : c = 0
      · subst q1
        by_cases q2 : (z : Int) - 64 < r
        · have e := HVV.out
          rw [if_pos (.inr q2)] at e
          subst e
          go_wp2_with (first | (go_at_call 55; refine (KNx.out).mono ?_; rintro e w' ⟨rfl, hw⟩; obtain rfl := hw.symm) | (go_at_call 56; refine (KE.out).mono ?_; rintro e w' ⟨rfl, hw⟩; obtain rfl := hw.symm) | (go_at_call 34; refine (KR.out).mono ?_; rintro e w' ⟨rfl, hw⟩; obtain rfl := hw.symm))
          go_ret2
          exact ⟨rfl, HB'.out.drew⟩
        · have e := HVV.out
          rw [if_neg (by simp; omega)] at e
          subst e
          go_wp2_with (first | (go_at_call 55; refine (KNx.out).mono ?_; rintro e w' ⟨rfl, hw⟩; obtain rfl := hw.symm) | (go_at_call 56; refine (KE.out).mono ?_; rintro e w' ⟨rfl, hw⟩; obtain rfl := hw.symm) | (go_at_call 34; refine (KR.out).mono ?_; rintro e w' ⟨rfl, hw⟩; obtain rfl := hw.symm))
          go_ret2
          exact ⟨rfl, HB'.out.drew⟩
      · have e := HVV.out
        rw [if_pos (.inl q1)] at e
        subst e
        have hcb : (c == 0) = false := by simpa using q1
        go_wp2_with (first | (go_at_call 55; refine (KNx.out).mono ?_; rintro e w' ⟨rfl, hw⟩; obtain rfl := hw.symm))
        go_ret2
        exact ⟨rfl, HB'.out⟩
end Go.Proofs.Ytadmekikdaocoaa
namespace Go.Proofs.Ytadmekikdaocoaa
open Go.RowKit Go.Shelf
set_option linter.unusedVariables false

/-- Bytes that words leave do not hang on losses that wait. -/
theorem writeG_same (bs : List Nat) (at_ : Nat) : ∀ (nos : List Nat) (σ τ : St), σ.n = τ.n → σ.bytes = τ.bytes → σ.past = τ.past → (writeG bs at_ σ nos).bytes = (writeDo bs at_ τ nos).bytes
  | [], σ, τ, _, h, _ => h
  | no :: nos, σ, τ, h1, h2, h3 => by
    have e1 : (wordG bs at_ σ no).n = (wordDo bs at_ τ no).n := h1
    have hl : ∀ i, σ.line i = τ.line i := fun i => by unfold St.line; rw [h2]
    have e2 : (wordG bs at_ σ no).bytes = (wordDo bs at_ τ no).bytes := by
      show (wordDo bs at_ σ no).bytes = _
      unfold wordDo
      simp only [St.put, hl, h2]
    have e3 : (wordG bs at_ σ no).past = (wordDo bs at_ τ no).past := by
      show (wordDo bs at_ σ no).past = _
      unfold wordDo
      simp only [St.put, hl, h3]
    exact writeG_same bs at_ nos _ _ e1 e2 e3
theorem writeG_bytes {bs : List Nat} {at_ : Nat} (hbs : ∀ x ∈ bs, x < 256) {σ : St} (hok : σ.Ok) (hlen : at_ + bs.length ≤ 64 * σ.n) (hops : σ.ops + 600000 ≤ 1400000000000) : (writeG bs at_ σ (wordsOf at_ bs.length)).bytes = splice σ.bytes at_ bs := by
  rw [writeG_same bs at_ _ σ σ rfl rfl rfl]
  exact store_bytes hbs hok hlen hops
theorem fls_bytes : ∀ (ls : List Nat) (σ : St), (acts (fls ls) σ).bytes = σ.bytes
  | [], σ => rfl
  | i :: ls, σ => by
    show (acts (fls ls) (tick (flA σ i))).bytes = _
    rw [fls_bytes ls]
    rfl
theorem fn_bytes (σ : St) : (acts [fnA] σ).bytes = σ.bytes := rfl
/-- How long a record is. -/
def rlen (l : Nat) : Nat := 24 + (l + padN l)
def oldOf (B : List Nat) (x : Int × Int) : List Nat := (B.drop x.1.toNat).take x.2.toNat
def recOf (B : List Nat) (x : Int × Int) : List Nat := recB x.1.toNat (oldOf B x)
/-- The operations of records, one behind the other. -/
def recsF (B : List Nat) : Nat → List (Int × Int) → List (St → St)
  | _, [] => []
  | at_, x :: t => wds (recOf B x) at_ (wordsOf at_ (recOf B x).length) ++ recsF B (at_ + (recOf B x).length) t
/-- Their bytes. -/
def recsB (B : List Nat) (xs : List (Int × Int)) : List Nat := xs.flatMap (recOf B)
theorem recsF_snoc (B : List Nat) : ∀ (xs : List (Int × Int)) (at_ : Nat) (x : Int × Int), recsF B at_ (xs ++ [x]) = recsF B at_ xs ++ wds (recOf B x) (at_ + (recsB B xs).length) (wordsOf (at_ + (recsB B xs).length) (recOf B x).length)
  | [], at_, x => by simp [recsF, recsB]
  | y :: t, at_, x => by
    show wds (recOf B y) at_ (wordsOf at_ (recOf B y).length) ++ recsF B (at_ + (recOf B y).length) (t ++ [x]) = _
    rw [recsF_snoc B t]
    have e : at_ + (recOf B y).length + (recsB B t).length = at_ + (recsB B (y :: t)).length := by
      simp [recsB]
      omega
    rw [e]
    show _ = (wds (recOf B y) at_ (wordsOf at_ (recOf B y).length) ++ recsF B (at_ + (recOf B y).length) t) ++ _
    rw [List.append_assoc]
theorem recsF_append (B : List Nat) : ∀ (xs ys : List (Int × Int)) (at_ : Nat), recsF B at_ (xs ++ ys) = recsF B at_ xs ++ recsF B (at_ + (recsB B xs).length) ys
  | [], ys, at_ => by simp [recsF, recsB]
  | y :: t, ys, at_ => by
    show wds (recOf B y) at_ (wordsOf at_ (recOf B y).length) ++ recsF B (at_ + (recOf B y).length) (t ++ ys) = _
    rw [recsF_append B t]
    have e : at_ + (recOf B y).length + (recsB B t).length = at_ + (recsB B (y :: t)).length := by
      simp [recsB]
      omega
    rw [e]
    show _ = (wds (recOf B y) at_ (wordsOf at_ (recOf B y).length) ++ recsF B (at_ + (recOf B y).length) t) ++ _
    rw [List.append_assoc]
/-- What an extent must be, that its bytes lie on the device and beside the log. -/
def Fine (a z N : Nat) (x : Int × Int) : Prop := 64 ≤ x.1 ∧ 1 ≤ x.2 ∧ x.1 + x.2 ≤ ((64 * N : Nat) : Int) ∧ (x.1 + x.2 ≤ (a : Int) ∨ ((a + z : Nat) : Int) ≤ x.1)
theorem fine_of {a z N : Nat} {x l : Int} (haz : a + z ≤ 64 * N) (ha : 64 ≤ a) (h : mayV a z N x l = true) : Fine a z N (x, l) := by
  unfold mayV wthV at h
  simp only [Bool.or_eq_true, decide_eq_true_eq] at h
  unfold Fine
  rcases h with ⟨h1, h2, h3⟩ | ⟨h1, h2, h3⟩
  · exact ⟨h1, h2, by simp only; omega, .inl (by simp only; omega)⟩
  · refine ⟨by simp only; omega, h2, by simp only; omega, .inr h1⟩
theorem fine_old {a z N : Nat} {x : Int × Int} {B : List Nat} (h : Fine a z N x) (hB : B.length = 64 * N) : (oldOf B x).length = x.2.toNat := by
  obtain ⟨h1, h2, h3, _⟩ := h
  unfold oldOf
  rw [List.length_take, List.length_drop]
  omega
theorem rec_len {a z N : Nat} {x : Int × Int} {B : List Nat} (h : Fine a z N x) (hB : B.length = 64 * N) : (recOf B x).length = rlen x.2.toNat := by
  unfold recOf rlen
  rw [recB_len, fine_old h hB]
theorem rec_lt {x : Int × Int} {B : List Nat} (hb : ∀ y ∈ B, y < 256) : ∀ y ∈ recOf B x, y < 256 :=
  recB_lt _ _ (fun y hy => hb y (List.mem_of_mem_drop (List.mem_of_mem_take hy)))
theorem recs_len {a z N : Nat} {B : List Nat} (hB : B.length = 64 * N) : ∀ xs : List (Int × Int), (∀ x ∈ xs, Fine a z N x) → (recsB B xs).length = (xs.map (fun x => rlen x.2.toNat)).sum
  | [], _ => rfl
  | x :: t, h => by
    have e : recsB B (x :: t) = recOf B x ++ recsB B t := rfl
    rw [e, List.length_append, rec_len (h x (by simp)) hB, recs_len hB t (fun y hy => h y (by simp [hy]))]
    simp
theorem roundV_pad {l : Int} (h1 : 1 ≤ l) (h2 : l ≤ 4194304) : roundV l 8 = (((l.toNat + padN l.toNat : Nat) : Int), 0) := by
  unfold roundV padN
  rw [if_neg (by omega)]
  by_cases h : l % 8 = 0
  · rw [if_pos h]
    congr 1
    omega
  · rw [if_neg h, if_neg (by omega)]
    congr 1
    omega
theorem needV_sum : ∀ (zs : List Int) (s : Int), (needV s zs).2 = 0 → (∀ l ∈ zs, 1 ≤ l ∧ l ≤ 4194304) → (needV s zs).1 = s + (((zs.map (fun l => rlen l.toNat)).sum : Nat) : Int)
  | [], s, _, _ => by simp [needV]
  | l :: t, s, h, hb => by
    obtain ⟨h1, h2⟩ := hb l (by simp)
    have hr := roundV_pad h1 h2
    unfold needV at h ⊢
    split at h
    · simp at h
    · rename_i hc
      rw [if_neg hc, needV_sum t _ h (fun l hl => hb l (by simp [hl])), hr]
      simp [rlen]
      omega
/-- The log's own bytes may change; others stay. -/
theorem splice_out {B c : List Nat} {at_ p n : Nat} (h : at_ + c.length ≤ B.length) (hp : p + n ≤ at_ ∨ at_ + c.length ≤ p) : ((splice B at_ c).drop p).take n = (B.drop p).take n := by
  refine List.ext_getElem? fun i => ?_
  rw [List.getElem?_take, List.getElem?_take]
  split
  · rw [List.getElem?_drop, List.getElem?_drop, splice_get _ _ _ _ h]
    rcases hp with hp | hp
    · rw [if_pos (by omega)]
    · rw [if_neg (by omega), if_neg (by omega)]
  · rfl
theorem splice_on {B c d : List Nat} {at_ : Nat} (h : at_ + (c.length + d.length) ≤ B.length) : splice (splice B at_ c) (at_ + c.length) d = splice B at_ (c ++ d) := by
  have hl : (splice B at_ c).length = B.length := length_splice _ _ _ (by omega)
  refine List.ext_getElem? fun i => ?_
  rw [splice_get _ _ _ _ (by omega), splice_get _ _ _ _ (by omega), splice_get _ _ _ _ (by rw [List.length_append]; omega), List.length_append]
  by_cases h1 : i < at_
  · rw [if_pos (by omega), if_pos h1, if_pos h1]
  · by_cases h2 : i < at_ + c.length
    · rw [if_pos h2, if_neg h1, if_pos h2, if_neg h1, if_pos (by omega), List.getElem?_append_left (by omega)]
    · rw [if_neg h2, if_neg h1, if_neg h2, if_neg h1]
      by_cases h3 : i < at_ + c.length + d.length
      · rw [if_pos h3, if_pos (by omega), List.getElem?_append_right (by omega)]
        congr 1
        omega
      · rw [if_neg h3, if_neg (by omega)]
/-- What the first records leave. -/
structure Recs (a N : Nat) (B : List Nat) (xs : List (Int × Int)) (σ s : St) : Prop where
  like : LikeG σ s (recsF B (a + 64) xs).length
  bytes : s.bytes = splice B (a + 64) (recsB B xs)
  run : s = acts (recsF B (a + 64) xs) σ
theorem wordsOf_few {at_ n : Nat} (h : at_ + n ≤ 4194304) : (wordsOf at_ n).length ≤ n := by
  rw [wordsOf_eq at_ n h]
  split
  · simp
  · simp
    omega
theorem Recs.next {a z N : Nat} {B : List Nat} {xs : List (Int × Int)} {x : Int × Int} {σ s : St} (hσ : σ.Ok) (hN : σ.n = N) (hBl : B = σ.bytes) (h : Recs a N B xs σ s) (hx : ∀ y ∈ xs ++ [x], Fine a z N y) (hroom : (recsB B (xs ++ [x])).length ≤ z - 64) (hz : 64 ≤ z) (haz : a + z ≤ 64 * N) (hops : σ.ops + 10000000 ≤ 1400000000000) (hlen : (recsF B (a + 64) xs).length ≤ 4194304) :
    Recs a N B (xs ++ [x]) σ (acts (wds (recOf B x) (a + 64 + (recsB B xs).length) (wordsOf (a + 64 + (recsB B xs).length) (recOf B x).length)) s) ∧ (recsF B (a + 64) (xs ++ [x])).length ≤ (recsF B (a + 64) xs).length + (recOf B x).length := by
  have hmx := hσ.max
  have hB64 : B.length = 64 * N := by rw [hBl, hσ.len, hN]
  have e0 : recsB B (xs ++ [x]) = recsB B xs ++ recOf B x := by simp [recsB]
  rw [e0, List.length_append] at hroom
  have hb256 : ∀ y ∈ B, y < 256 := by rw [hBl]; exact hσ.byte
  have l1 := h.like.n
  have l2 := h.like.ops
  have hwf := wordsOf_few (at_ := a + 64 + (recsB B xs).length) (n := (recOf B x).length) (by omega)
  have hlk := acts_like (N := N) (wds (recOf B x) (a + 64 + (recsB B xs).length) (wordsOf (a + 64 + (recsB B xs).length) (recOf B x).length)) s (wds_good (rec_lt hb256) (wordsOf_lt (m := N) (by omega) (by omega))) h.like.ok (by omega) (by rw [wds_len]; omega)
  refine ⟨⟨?_, ?_, ?_⟩, ?_⟩
  · rw [recsF_snoc, List.length_append]
    exact like_trans h.like hlk
  · rw [wds_acts, writeG_bytes (rec_lt hb256) h.like.ok (by omega) (by omega), h.bytes, e0]
    exact splice_on (by omega)
  · rw [recsF_snoc, acts_append, ← h.run]
  · rw [recsF_snoc, List.length_append, wds_len]
    omega
theorem Recs.old {a z N : Nat} {B : List Nat} {xs : List (Int × Int)} {x : Int × Int} {σ s : St} (hB : B.length = 64 * N) (h : Recs a N B xs σ s) (hx : Fine a z N x) (hroom : (recsB B xs).length ≤ z - 64) (hz : 64 ≤ z) (haz : a + z ≤ 64 * N) : (s.bytes.drop x.1.toNat).take x.2.toNat = oldOf B x := by
  obtain ⟨h1, h2, h3, h4⟩ := hx
  rw [h.bytes]
  unfold oldOf
  refine splice_out (by omega) ?_
  omega
theorem Recs.start {a N : Nat} {B : List Nat} {σ : St} (hσ : σ.Ok) (hB : B = σ.bytes) : Recs a N B [] σ σ := by
  refine ⟨like_refl hσ, ?_, rfl⟩
  rw [hB]
  simp [recsB, splice]
end Go.Proofs.Ytadmekikdaocoaa
namespace Go.Proofs.Ytadmekikdaocoaa
open Go.RowKit Go.Shelf
set_option linter.unusedVariables false
set_option maxRecDepth 100000

theorem OwnR.slice {W : World} {B : Nat} {v : Value} {bs : List Nat} (h : OwnR W B v bs) (hb : ∀ x ∈ bs, x < 256) (hne : 1 ≤ bs.length) : ∃ g cp, v = .slice (some ⟨g, 0, none⟩) bs.length cp ∧ Sl W (some ⟨g, 0, none⟩) bs ∧ B ≤ g ∧ bs.length ≤ cp ∧ ∃ cur, W.heap[g]? = some (.cells cur 5 (0, 0)) := by
  rcases h.2 with ⟨rfl, e⟩ | ⟨g, cap, cur, rfl, h1, h2, h3, h4, h5, h6⟩
  · omega
  · refine ⟨g, cap, rfl, .inr ⟨g, 0, rfl, lt_of_heap h2, fun i y hy => ⟨?_, hb y (List.mem_of_getElem? hy)⟩⟩, h1, h3, cur, h2⟩
    have hi : i < bs.length := (List.getElem?_eq_some_iff.1 hy).1
    have h9 : (cur.toList.take (bs.length * 1))[i]? = some (B8 y) := by rw [h6, List.getElem?_map, hy]; rfl
    rw [List.getElem?_take, if_pos (by omega)] at h9
    rw [Nat.zero_add, cell8 h2]
    simpa [B8] using h9
set_option maxHeartbeats 400000 in
theorem lstore_any {w : World} {g b a z m cap : Nat} {L : Lay} {σ : St} {ea : Option Addr} {xs : List (Int × Int)} (h : LogL w g b a z) (hd : Dv w b L σ) (ha : 64 ≤ a) (hz : 64 ≤ z) (haz : a + z ≤ 64 * σ.n) (hops : σ.ops + 20000000 ≤ 1400000000000) (he : SlE w ea xs) (hm : xs.length = m) (hml : m ≤ 4194304) (hfine : ∀ x ∈ xs, Fine a z σ.n x) (hroom : (recsB σ.bytes xs).length ≤ z - 64) :
    Calls Try.prog 32 #[.pointer (some ⟨g, 0, none⟩), .slice ea m cap] w fun e w' => ∃ c s, e = .returned (.int .i64 c) ∧ RunD (recsF σ.bytes (a + 64) xs) σ c s ∧ Atd w b L σ w' s (recsF σ.bytes (a + 64) xs).length := by
  have hmx := hd.ok.max
  obtain ⟨B, hBs⟩ : ∃ B, σ.bytes = B := ⟨_, rfl⟩
  rw [hBs] at hroom ⊢
  have hB64 : B.length = 64 * σ.n := by rw [← hBs]; exact hd.ok.len
  have hb256 : ∀ y ∈ B, y < 256 := by rw [← hBs]; exact hd.ok.byte
  have KRM := hide (lroom_any h (by omega))
  have HL := hide h
  have HD := hide hd
  have HE := hide he
  have HM := hide hm
  have HF := hide hfine
  have HRM := hide hroom
  have HB64 := hide hB64
  have HB256 := hide hb256
  have HBS := hide hBs
  clear h hd he hm hfine hroom hB64 hb256 hBs
  go_enter Try.func32, Try.ntmps32
  go_wp2_with (go_at_call 34; refine (KRM.out).mono ?_; rintro e w' ⟨rfl, hw⟩; obtain rfl := hw.symm)
  go_loopw [5, 16] (fun av iv wr => ∃ (j : Nat) (s : St), iv = .int .i64 (j : Int) ∧ av = .int .i64 ((a + 64 + (recsB B (xs.take j)).length : Nat) : Int) ∧ j ≤ m ∧ Recs a σ.n B (xs.take j) σ s ∧ Atd w b L σ wr s (recsF B (a + 64) (xs.take j)).length ∧ (recsF B (a + 64) (xs.take j)).length ≤ (recsB B (xs.take j)).length) (fun av iv _ => (m - (intOf iv).toNat))
  case atStart => exact ⟨0, σ, rfl, rfl, Nat.zero_le _, Recs.start HD.out.ok HBS.out.symm, Atd.start HD.out.dev (Below.refl _ _), Nat.le_refl _⟩
  case round =>
    obtain ⟨j, s, rfl, hav, hj, hrec, hat, hfew⟩ := hrel
    obtain ⟨at0, hat0⟩ : ∃ at0, a + 64 + (recsB B (xs.take j)).length = at0 := ⟨_, rfl⟩
    rw [hat0] at hav
    subst hav
    have HAT0 := hide hat0
    clear hat0
    by_cases hlt : j < m
    · obtain ⟨⟨x, l⟩, hx⟩ : ∃ x, xs[j]? = some x := ⟨_, List.getElem?_eq_getElem (by rw [HM.out]; exact hlt)⟩
      have hfx : Fine a z σ.n (x, l) := HF.out _ (List.mem_of_getElem? hx)
      obtain ⟨xn, hxn⟩ : ∃ xn : Nat, x = (xn : Int) := ⟨x.toNat, by have := hfx.1; simp only at this; omega⟩
      obtain ⟨ln, hln⟩ : ∃ ln : Nat, l = (ln : Int) := ⟨l.toNat, by have := hfx.2.1; simp only at this; omega⟩
      subst hxn hln
      have hts : xs.take (j + 1) = xs.take j ++ [((xn : Int), (ln : Int))] := by rw [List.take_add_one, hx]; rfl
      have hpre : (recsB B (xs.take (j + 1))).length ≤ z - 64 := by
        have e : recsB B xs = recsB B (xs.take (j + 1)) ++ recsB B (xs.drop (j + 1)) := by
          unfold recsB
          rw [← List.flatMap_append, List.take_append_drop]
        have h5 := HRM.out
        rw [e, List.length_append] at h5
        omega
      have hfj : ∀ y ∈ xs.take j ++ [((xn : Int), (ln : Int))], Fine a z σ.n y := fun y hy => HF.out y (by rw [← hts] at hy; exact List.mem_of_mem_take hy)
      rw [hts] at hpre
      have hpre2 := hpre
      rw [show recsB B (xs.take j ++ [((xn : Int), (ln : Int))]) = recsB B (xs.take j) ++ recOf B ((xn : Int), (ln : Int)) by simp [recsB], List.length_append] at hpre2
      have hops2 : σ.ops + 10000000 ≤ 1400000000000 := by omega
      obtain ⟨hnx, hnl⟩ := Recs.next (z := z) HD.out.ok rfl HBS.out.symm hrec hfj hpre hz haz hops2 (by omega)
      have hold := Recs.old HB64.out hrec hfx (by omega) hz haz
      have hrl := rec_len hfx HB64.out
      have hol := fine_old hfx HB64.out
      obtain ⟨f1, f2, f3, f4⟩ := hfx
      simp only at f1 f2 f3 f4 hold hrl hol
      obtain ⟨L1, hdv, hgr1, hft1, hn1L⟩ := HD.out.went hat hrec.like (by omega)
      simp only [Int.toNat_natCast] at hold hrl hol
      have hlog := HL.out.atd HD.out.dev hat
      obtain ⟨eg, eo, hea, hc0, hc1⟩ := (HE.out.atd HD.out.dev hat).at hx
      subst hea
      have ix := fun X => index_ext eg eo j m cap hlt X
      have jI : (j : Int) < (m : Int) := by omega
      have hB1 : Below wr.heap.size wr (wr.alloc (.cells #[.int .i64 (xn : Int), .int .i64 (ln : Int)] 58)) := (Below.refl _ wr).alloc (Nat.le_refl _) _
      have hnew := heap_alloc_new wr (.cells #[.int .i64 (xn : Int), .int .i64 (ln : Int)] 58)
      have hn1 := hrec.like.n
      have S5 := hide (show LogL (wr.alloc (.cells #[.int .i64 (xn : Int), .int .i64 (ln : Int)] 58)).drew g b a z ∧ (wr.alloc (.cells #[.int .i64 (xn : Int), .int .i64 (ln : Int)] 58)).drew.heap[wr.heap.size]? = some (.cells #[.int .i64 (xn : Int), .int .i64 (ln : Int)] 58 (0, 0)) from ⟨(hlog.below hB1).drew, hnew⟩)
      have hdv1 := hdv.below (bseq hB1 (Below.refl _ _).drew)
      have kld := dv_load (at_ := xn) (n := ln) hdv1 (by omega)
      rw [hold] at kld
      have KLD := hide kld
      have HB1 := hide (bseq hB1 (Below.refl _ _).drew)
      have HDV1 := hide hdv1
      have HREC := hide hrec
      have HAT := hide hat
      have HNX := hide hnx
      have HNL := hide hnl
      have HGR1 := hide hgr1
      have HFT1 := hide hft1
      have HN1L := hide hn1L
      have HTS := hide hts
      have HRL := hide hrl
      have HOL := hide hol
      have HFEW := hide hfew
      have HPRE2 := hide hpre2
      have HN1 := hide hn1
      have HXB := hide (And.intro f1 (And.intro f2 f3))
      clear hrec hat hfew hnx hnl hold hrl hol hdv hgr1 hft1 hn1L hlog hB1 hnew kld hdv1 hts hpre hpre2 hfj hx hn1 f1 f2 f3 f4
      go_wp2_with (fail)
      refine wp_region_held_drew (S := fun Y => LogL Y g b a z ∧ Y.heap[wr.heap.size]? = some (.cells #[.int .i64 (xn : Int), .int .i64 (ln : Int)] 58 (0, 0))) (by kernel_rfl) S5.out (fun hS => ?_)
      refine wpAnyH_take (i := 0) (v := (.pointer (some ⟨g, 0, none⟩))) rfl (by kernel_rfl) (by kernel_rfl) (by kernel_rfl) (fun _ _ _ h => h) (Or.inl ⟨by kernel_rfl, fun w' hw => by (go_simp)⟩) hS ?_
      refine wpAnyH_take (i := 1) (v := (.pointer (some ⟨g, 0, none⟩))) rfl (by kernel_rfl) (by kernel_rfl) (by kernel_rfl) (fun _ _ _ h => h) (Or.inl ⟨by kernel_rfl, fun w' hw => by (go_simp)⟩) hS ?_
      refine wpAnyH_take (i := 2) (v := (.pointer (some ⟨g, 1, none⟩))) rfl (by kernel_rfl) (by kernel_rfl) (by kernel_rfl) (fun _ _ _ h => h) (Or.inl ⟨by kernel_rfl, fun w' hw => by (go_simp)⟩) hS ?_
      refine wpAnyH_take (i := 3) (v := (.pointer (some ⟨b, 0, none⟩))) rfl (by kernel_rfl) (by kernel_rfl) (by kernel_rfl) (fun _ _ _ h => h) (Or.inl ⟨by kernel_rfl, fun w' hw => by (have z1 := LogL.c1 hw.1; have z4 : w'.cell? ⟨wr.heap.size, 0, none⟩ = some (.int .i64 (xn : Int)) := cell8 hw.2 0; have z5 : w'.cell? ⟨wr.heap.size, 1, none⟩ = some (.int .i64 (ln : Int)) := cell8 hw.2 1; go_simp)⟩) hS ?_
      refine wpAnyH_take (i := 4) (v := (.pointer (some ⟨wr.heap.size, 0, none⟩))) rfl (by kernel_rfl) (by kernel_rfl) (by kernel_rfl) (fun _ _ _ h => h) (Or.inl ⟨by kernel_rfl, fun w' hw => by (go_simp)⟩) hS ?_
      refine wpAnyH_take (i := 5) (v := (.int .i64 (xn : Int))) rfl (by kernel_rfl) (by kernel_rfl) (by kernel_rfl) (fun _ _ _ h => h) (Or.inl ⟨by kernel_rfl, fun w' hw => by (have z1 := LogL.c1 hw.1; have z4 : w'.cell? ⟨wr.heap.size, 0, none⟩ = some (.int .i64 (xn : Int)) := cell8 hw.2 0; have z5 : w'.cell? ⟨wr.heap.size, 1, none⟩ = some (.int .i64 (ln : Int)) := cell8 hw.2 1; go_simp)⟩) hS ?_
      refine wpAnyH_take (i := 6) (v := (.pointer (some ⟨wr.heap.size, 1, none⟩))) rfl (by kernel_rfl) (by kernel_rfl) (by kernel_rfl) (fun _ _ _ h => h) (Or.inl ⟨by kernel_rfl, fun w' hw => by (go_simp)⟩) hS ?_
      refine wpAnyH_take (i := 7) (v := (.int .i64 (ln : Int))) rfl (by kernel_rfl) (by kernel_rfl) (by kernel_rfl) (fun _ _ _ h => h) (Or.inl ⟨by kernel_rfl, fun w' hw => by (have z1 := LogL.c1 hw.1; have z4 : w'.cell? ⟨wr.heap.size, 0, none⟩ = some (.int .i64 (xn : Int)) := cell8 hw.2 0; have z5 : w'.cell? ⟨wr.heap.size, 1, none⟩ = some (.int .i64 (ln : Int)) := cell8 hw.2 1; go_simp)⟩) hS ?_
      refine wpAnyH_goS (i := 8) (by kernel_rfl) rfl (by kernel_rfl) (fun K hK => ?_)
      go_wp2_with (go_at_call 24; refine (KLD.out).mono ?_; rintro e W2 ⟨RR, rfl, hRn, hRo, hRb⟩; have HRO := hide hRo; have HRN := hide hRn; have HRB := hide hRb; clear hRn hRo hRb)
      have hS2 := (show LogL W2 g b a z ∧ W2.heap[wr.heap.size]? = some (.cells #[.int .i64 (xn : Int), .int .i64 (ln : Int)] 58 (0, 0)) from ⟨S5.out.1.below HRB.out, row_keepU S5.out.2 HRB.out⟩)
      refine hK.out _ _ hS2 ?_
      clear hK K
      refine wpAnyH_take (i := 9) (v := (.tuple #[.slice (some ⟨RR, 0, none⟩) ln ln, .int .i64 0])) rfl (by kernel_rfl) (by kernel_rfl) (by kernel_rfl) (fun _ _ _ h => h) (Or.inl ⟨by kernel_rfl, fun w' hw => by (go_simp)⟩) hS2 ?_
      refine wpAnyH_take (i := 10) (v := (.slice (some ⟨RR, 0, none⟩) ln ln)) rfl (by kernel_rfl) (by kernel_rfl) (by kernel_rfl) (fun _ _ _ h => h) (Or.inl ⟨by kernel_rfl, fun w' hw => by (go_simp)⟩) hS2 ?_
      refine wpAnyH_take (i := 11) (v := (.int .i64 0)) rfl (by kernel_rfl) (by kernel_rfl) (by kernel_rfl) (fun _ _ _ h => h) (Or.inl ⟨by kernel_rfl, fun w' hw => by (go_simp)⟩) hS2 ?_
      refine wpAnyH_take (i := 12) (v := (.slice (some ⟨RR, 0, none⟩) ln ln)) rfl (by kernel_rfl) (by kernel_rfl) (by kernel_rfl) (fun _ _ _ h => h) (Or.inl ⟨by kernel_rfl, fun w' hw => by (go_simp)⟩) hS2 ?_
      refine wpAnyH_take (i := 13) (v := (.int .i64 0)) rfl (by kernel_rfl) (by kernel_rfl) (by kernel_rfl) (fun _ _ _ h => h) (Or.inl ⟨by kernel_rfl, fun w' hw => by (go_simp)⟩) hS2 ?_
      refine wpAnyH_done (by kernel_rfl) ?_ _
      simp only [Act.put, List.getElem_toArray, List.getElem_cons_zero, List.getElem_cons_succ, List.setIfInBounds_toArray, List.set_cons_zero, List.set_cons_succ]
      obtain ⟨f1, f2, f3⟩ := HXB.out
      have hoB : ∀ y ∈ oldOf B ((xn : Int), (ln : Int)), y < 256 := fun y hy => HB256.out y (List.mem_of_mem_drop (List.mem_of_mem_take hy))
      have hoR : (oldOf B ((xn : Int), (ln : Int))).length = ln := HOL.out
      have klai := llaid_any xn RR 0 (oldOf B ((xn : Int), (ln : Int))) ln W2 (fun i y hy => ⟨by rw [Nat.zero_add]; exact HRO.out.cell i y hy, hoB y (List.mem_of_getElem? hy)⟩) HRO.out.lt (by rw [hoR]; omega) (by rw [hoR]; omega) (by omega) hoB
      rw [hoR] at klai
      have e5 : recB xn (oldOf B ((xn : Int), (ln : Int))) = recOf B ((xn : Int), (ln : Int)) := rfl
      rw [e5] at klai
      have KLA := hide klai
      have c0 : W2.cell? ⟨wr.heap.size, 0, none⟩ = some (.int .i64 (xn : Int)) := cell8 hS2.2 0
      have LOG2 := hide hS2.1
      have HBW2 := hide (bseq HB1.out HRB.out)
      clear klai e5 hoB hoR hS hS2 KLD S5
      go_upto_region 9 with (go_at_call 57; refine (KLA.out).mono ?_; rintro e W3 ⟨rv, rfl, hrv, hB3⟩; have HRV := hide hrv; have HB3 := hide hB3; clear hrv hB3)
      have hrb := rec_lt (x := ((xn : Int), (ln : Int))) HB256.out
      obtain ⟨rg, rcap, rfl, hsl, hrg, hrc, rcur, hrh⟩ := HRV.out.slice hrb (by rw [HRL.out]; unfold rlen; omega)
      have hdv3 := (HDV1.out.below HRB.out).below HB3.out
      have hst := hdv3.dev
      have hops3 := HREC.out.like.ops
      have hnf := foot_nd hst hrh byte_nd
      have hfew := HFEW.out
      have hpre2 := HPRE2.out
      have kst := dv_store (bs := recOf B ((xn : Int), (ln : Int))) (a + 64 + (recsB B (xs.take j)).length) rcap hdv3 (by omega) hsl hrc (by rw [HN1.out]; omega) (fun ad he => by cases he; exact ⟨lt_of_heap hrh, hnf⟩)
      have KST := hide kst
      have c1 : W3.cell? ⟨g, 1, none⟩ = some (.pointer (some ⟨b, 0, none⟩)) := (LOG2.out.below HB3.out).c1
      have HB30 := hide (bseq HBW2.out HB3.out)
      obtain ⟨rl, hrl⟩ : ∃ rl, (recOf B ((xn : Int), (ln : Int))).length = rl := ⟨_, rfl⟩
      rw [hrl, HAT0.out] at KST
      rw [hrl]
      have HRLV := hide hrl
      have hsm : at0 + rl ≤ 4194304 := by have := HAT0.out; omega
      have wm : IntKind.i64.wrap ((at0 : Int) + (rl : Int)) = ((at0 + rl : Nat) : Int) := by rw [IntKind.wrap_i64]; omega
      clear kst hsl hrh hst hdv3 hnf hrl hrb c0 hops3
      go_upto_region 10 with (go_at_call 23; refine (KST.out).mono ?_; rintro e W4 ⟨c, s4, rfl, hrun, hatd⟩; have HRUN := hide hrun; have HATD := hide hatd; clear hrun hatd)
      by_cases hc : c = 0
      · subst hc
        go_wp2_with (fail)
        go_roundw
        case rel =>
          have e4 : s4 = acts (wds (recOf B ((xn : Int), (ln : Int))) at0 (wordsOf at0 rl)) s := HRUN.out.zero
          have hnx := HNX.out
          rw [HAT0.out, HRLV.out, ← e4] at hnx
          refine ⟨j + 1, s4, int_congrP (by omega), ?_, by omega, by rw [HTS.out]; exact hnx, ?_, ?_⟩
          · rw [HTS.out, show recsB B (xs.take j ++ [((xn : Int), (ln : Int))]) = recsB B (xs.take j) ++ recOf B ((xn : Int), (ln : Int)) by simp [recsB], List.length_append, HRLV.out]
            exact int_congrP (by have := HAT0.out; omega)
          · rw [HTS.out, recsF_snoc, List.length_append, wds_len, HAT0.out, HRLV.out]
            obtain ⟨g2, L4, d4, ft4, n4⟩ := HATD.out
            exact Atd.go (HGR1.out.trans (Gr.of_below HB30.out) (fun i h => .inl h)) HFT1.out HN1L.out d4 ft4 g2 n4
          · rw [HTS.out]
            have h5 := HNL.out
            have h6 := HFEW.out
            rw [show recsB B (xs.take j ++ [((xn : Int), (ln : Int))]) = recsB B (xs.take j) ++ recOf B ((xn : Int), (ln : Int)) by simp [recsB], List.length_append]
            omega
        case measure => simp [intOf]; omega
      · have h5 := HRUN.out.five hc
        subst h5
        go_wp2_with (fail)
        go_ret
        have e6 : recsF B (a + 64) xs = recsF B (a + 64) (xs.take (j + 1)) ++ recsF B (a + 64 + (recsB B (xs.take (j + 1))).length) (xs.drop (j + 1)) := by rw [← recsF_append, List.take_append_drop]
        have r0 : RunD (recsF B (a + 64) (xs.take j)) σ 0 s := .inl ⟨rfl, HREC.out.run⟩
        have r1 : RunD (recsF B (a + 64) (xs.take (j + 1))) σ 5 s4 := by
          rw [HTS.out, recsF_snoc, HAT0.out, HRLV.out]
          exact r0.app0 HRUN.out HREC.out.like.arms
        refine ⟨5, s4, rfl, by rw [e6]; exact r1.app5, ?_⟩
        obtain ⟨g2, L4, d4, ft4, n4⟩ := HATD.out
        have h9 := Atd.go (HGR1.out.trans (Gr.of_below HB30.out) (fun i h => .inl h)) HFT1.out HN1L.out d4 ft4 g2 n4
        refine h9.more ?_
        rw [e6, HTS.out, recsF_snoc, List.length_append, List.length_append, wds_len, HAT0.out, HRLV.out]
        omega
    · have jI : ¬ (j : Int) < (m : Int) := by omega
      obtain rfl : j = m := by omega
      have hfull : xs.take j = xs := List.take_of_length_le (by rw [HM.out]; exact Nat.le_refl _)
      rw [hfull] at hrec hat
      have HR := hide hrec
      have HA := hide hat
      clear hrec hat hfew hfull
      go_wp2
      go_ret
      exact ⟨0, rfl, s, .inl ⟨rfl, HR.out.run⟩, HA.out⟩
end Go.Proofs.Ytadmekikdaocoaa
namespace Go.Proofs.Ytadmekikdaocoaa
open Go.RowKit Go.Shelf
set_option linter.unusedVariables false
set_option maxRecDepth 100000

theorem rng_good {N : Nat} (at_ n : Nat) : ∀ f ∈ rngF at_ n, GoodF N f := by
  intro f hf
  rcases List.mem_append.1 hf with h | h
  · exact fls_good _ f h
  · rw [List.mem_singleton.1 h]; exact fn_good
theorem pub_good {N v at_ : Nat} (h : at_ + 8 ≤ 64 * N) (hN : N ≤ 65536) : ∀ f ∈ pubF v at_, GoodF N f := by
  intro f hf
  rcases List.mem_append.1 hf with h1 | h1
  · exact wds_good (leB_lt 8 v) (wordsOf_lt h hN) f h1
  · rcases List.mem_append.1 h1 with h2 | h2
    · exact fls_good _ f h2
    · rw [List.mem_singleton.1 h2]; exact fn_good
theorem rng_bytes (at_ n : Nat) (σ : St) : (acts (rngF at_ n) σ).bytes = σ.bytes := by
  unfold rngF
  rw [acts_append, fn_bytes, fls_bytes]
theorem pub_bytes {v at_ : Nat} {σ : St} (hok : σ.Ok) (h : at_ + 8 ≤ 64 * σ.n) (hops : σ.ops + 600000 ≤ 1400000000000) : (acts (pubF v at_) σ).bytes = splice σ.bytes at_ (leB 8 v) := by
  unfold pubF
  have hl : (leB 8 v).length = 8 := leB_length 8 v
  have e := writeG_bytes (bs := leB 8 v) (at_ := at_) (leB_lt 8 v) hok (by omega) hops
  rw [hl] at e
  rw [acts_append, acts_append, fn_bytes, fls_bytes, wds_acts, e]
theorem rng_few {at_ n : Nat} (h : at_ + n ≤ 4194304) : (rngF at_ n).length ≤ 65538 := by
  have := linesOf_len h
  unfold rngF
  rw [List.length_append, fls_len, List.length_singleton]
  omega
theorem pub_few {v at_ : Nat} (h : at_ + 8 ≤ 4194304) : (pubF v at_).length ≤ 700000 := by
  have h1 := linesOf_len h
  have h2 := wordsOf_len h
  unfold pubF
  rw [List.length_append, List.length_append, wds_len, fls_len, List.length_singleton]
  omega
/-- The operations of a Write. -/
def wrF (B : List Nat) (a : Nat) (xs : List (Int × Int)) : List (St → St) := recsF B (a + 64) xs ++ (rngF (a + 64) (recsB B xs).length ++ pubF xs.length a)
set_option maxHeartbeats 400000 in
theorem lwrite_state {w : World} {g b a z m cap : Nat} {L : Lay} {σ : St} {ea : Option Addr} (h : LogL w g b a z) (hd : Dv w b L σ) (ha8 : a % 8 = 0) (hal : a + 8 ≤ 64 * σ.n) (hnum : leV ((σ.bytes.drop a).take 8) ≠ 0) :
    Calls Try.prog 9 #[.pointer (some ⟨g, 0, none⟩), .slice ea m cap] w fun e w' => e = .returned (.int .i64 3) ∧ Below w.heap.size w w' := by
  have k := lnumber_any h hd ha8 hal
  generalize leV ((σ.bytes.drop a).take 8) = v at *
  have KN := hide k
  have hvb : ((v : Int) == 0) = false := by simp; exact hnum
  clear k h hd
  go_enter Try.func9, Try.ntmps9
  go_wp2_with (go_at_call 30; refine (KN.out).mono ?_; rintro e W1 ⟨rfl, hB⟩; have HB := hide hB; clear hB)
  go_ret
  exact ⟨rfl, HB.out⟩
set_option maxHeartbeats 400000 in
/-- What may not be, or what there is no room for, or nothing. -/
theorem lwrite_none {w : World} {g b a z m cap : Nat} {L : Lay} {σ : St} {ea : Option Addr} {xs : List (Int × Int)} (h : LogL w g b a z) (hd : Dv w b L σ) (ha8 : a % 8 = 0) (hz : 64 ≤ z) (haz : a + z ≤ 64 * σ.n) (hnum : leV ((σ.bytes.drop a).take 8) = 0) (he : SlE w ea xs) (hm : xs.length = m) (hml : m ≤ 8796093022208) (hno : (needX a z σ.n xs).2 ≠ 0 ∨ (needX a z σ.n xs).1 = 0) :
    Calls Try.prog 9 #[.pointer (some ⟨g, 0, none⟩), .slice ea m cap] w fun e w' => e = .returned (.int .i64 (needX a z σ.n xs).2) ∧ Below w.heap.size w w' := by
  have hmx := hd.ok.max
  have k := lnumber_any h hd ha8 (by omega)
  rw [hnum] at k
  have KND := hide (fun W (hB : Below w.heap.size w W) => lneed_any cap m (h.below hB) (hd.dev.below hB) hmx (by omega) hz (he.below hB) hm hml)
  generalize needX a z σ.n xs = V at *
  obtain ⟨r, c⟩ := V
  simp only at hno
  have KN := hide k
  clear k h hd he hm
  by_cases hc : c = 0
  · obtain rfl := hc
    have hr : r = 0 := by rcases hno with h | h; exact absurd rfl h; exact h
    subst hr
    go_enter Try.func9, Try.ntmps9
    go_wp2_with (first | (go_at_call 30; refine (KN.out).mono ?_; rintro e W1 ⟨rfl, hB⟩; have HB := hide hB; clear hB) | (go_at_call 31; refine (KND.out _ HB.out).mono ?_; rintro e W2 ⟨rfl, hB⟩; have HB2 := hide (bseq HB.out hB); clear hB))
    go_ret
    exact ⟨rfl, HB2.out⟩
  · have hcb : (c == 0) = false := by simpa using hc
    go_enter Try.func9, Try.ntmps9
    go_wp2_with (first | (go_at_call 30; refine (KN.out).mono ?_; rintro e W1 ⟨rfl, hB⟩; have HB := hide hB; clear hB) | (go_at_call 31; refine (KND.out _ HB.out).mono ?_; rintro e W2 ⟨rfl, hB⟩; have HB2 := hide (bseq HB.out hB); clear hB))
    go_ret
    exact ⟨rfl, HB2.out⟩
theorem need_good {a z N : Nat} {xs : List (Int × Int)} {B : List Nat} (hB : B.length = 64 * N) (ha : 64 ≤ a) (hz : 64 ≤ z) (haz : a + z ≤ 64 * N) (hN : N ≤ 65536) (h : (needX a z N xs).2 = 0) : (∀ x ∈ xs, Fine a z N x) ∧ (needX a z N xs).1 = (((recsB B xs).length : Nat) : Int) ∧ (recsB B xs).length ≤ z - 64 := by
  unfold needX at h ⊢
  by_cases hm : allMay a z N xs = true
  · rw [if_pos hm] at h ⊢
    have hf : ∀ x ∈ xs, Fine a z N x := fun x hx => by
      unfold allMay at hm
      exact fine_of haz ha (List.all_eq_true.1 hm x hx)
    by_cases hc : (needV 0 (xs.map Prod.snd)).2 ≠ 0 ∨ (z : Int) - 64 < (needV 0 (xs.map Prod.snd)).1
    · rw [if_pos hc] at h
      simp at h
    · rw [if_neg hc]
      have h2 : (needV 0 (xs.map Prod.snd)).2 = 0 := Classical.byContradiction fun h => hc (.inl h)
      have h3 := needV_sum (xs.map Prod.snd) 0 h2 (fun l hl => by
        obtain ⟨x, hx, rfl⟩ := List.mem_map.1 hl
        obtain ⟨f1, f2, f3, _⟩ := hf x hx
        omega)
      have h4 := recs_len hB xs hf
      have e : ((xs.map Prod.snd).map (fun l => rlen l.toNat)) = xs.map (fun x => rlen x.2.toNat) := by rw [List.map_map]; rfl
      rw [e, ← h4] at h3
      refine ⟨hf, by simp only; rw [h3]; omega, ?_⟩
      have h5 : ¬ (z : Int) - 64 < (needV 0 (xs.map Prod.snd)).1 := fun h => hc (.inr h)
      omega
  · rw [if_neg hm] at h
    simp at h
theorem Recs.upto {a z N : Nat} {B : List Nat} {xs : List (Int × Int)} {σ : St} (hσ : σ.Ok) (hN : σ.n = N) (hB : B = σ.bytes) (hx : ∀ y ∈ xs, Fine a z N y) (hroom : (recsB B xs).length ≤ z - 64) (hz : 64 ≤ z) (haz : a + z ≤ 64 * N) (hops : σ.ops + 10000000 ≤ 1400000000000) : ∀ k, k ≤ xs.length → Recs a N B (xs.take k) σ (acts (recsF B (a + 64) (xs.take k)) σ) ∧ (recsF B (a + 64) (xs.take k)).length ≤ (recsB B (xs.take k)).length
  | 0, _ => ⟨Recs.start hσ hB, Nat.le_refl _⟩
  | k + 1, hk => by
    obtain ⟨i1, i2⟩ := Recs.upto hσ hN hB hx hroom hz haz hops k (by omega)
    obtain ⟨x, hxk⟩ : ∃ x, xs[k]? = some x := ⟨_, List.getElem?_eq_getElem (by omega)⟩
    have hts : xs.take (k + 1) = xs.take k ++ [x] := by rw [List.take_add_one, hxk]; rfl
    have hmx := hσ.max
    have hpre : (recsB B (xs.take (k + 1))).length ≤ z - 64 := by
      have e : recsB B xs = recsB B (xs.take (k + 1)) ++ recsB B (xs.drop (k + 1)) := by
        unfold recsB
        rw [← List.flatMap_append, List.take_append_drop]
      rw [e, List.length_append] at hroom
      omega
    rw [hts] at hpre ⊢
    have hpre2 := hpre
    rw [show recsB B (xs.take k ++ [x]) = recsB B (xs.take k) ++ recOf B x by simp [recsB], List.length_append] at hpre2
    obtain ⟨j1, j2⟩ := Recs.next (z := z) hσ hN hB i1 (fun y hy => hx y (by rw [← hts] at hy; exact List.mem_of_mem_take hy)) hpre hz haz hops (by omega)
    refine ⟨?_, ?_⟩
    · rw [recsF_snoc, acts_append]
      exact j1
    · rw [show recsB B (xs.take k ++ [x]) = recsB B (xs.take k) ++ recOf B x by simp [recsB], List.length_append]
      omega
theorem Recs.whole {a z N : Nat} {B : List Nat} {xs : List (Int × Int)} {σ : St} (hσ : σ.Ok) (hN : σ.n = N) (hB : B = σ.bytes) (hx : ∀ y ∈ xs, Fine a z N y) (hroom : (recsB B xs).length ≤ z - 64) (hz : 64 ≤ z) (haz : a + z ≤ 64 * N) (hops : σ.ops + 10000000 ≤ 1400000000000) : Recs a N B xs σ (acts (recsF B (a + 64) xs) σ) ∧ (recsF B (a + 64) xs).length ≤ (recsB B xs).length := by
  have h := Recs.upto hσ hN hB hx hroom hz haz hops xs.length (Nat.le_refl _)
  rw [List.take_of_length_le (Nat.le_refl _)] at h
  exact h
set_option maxHeartbeats 1000000 in
theorem lwrite_ok {w : World} {g b a z m cap : Nat} {L : Lay} {σ : St} {ea : Option Addr} {xs : List (Int × Int)} (h : LogL w g b a z) (hd : Dv w b L σ) (ha8 : a % 8 = 0) (ha : 64 ≤ a) (hz : 64 ≤ z) (haz : a + z ≤ 64 * σ.n) (hops : σ.ops + 30000000 ≤ 1400000000000) (hnum : leV ((σ.bytes.drop a).take 8) = 0) (he : SlE w ea xs) (hm : xs.length = m) (hm1 : 1 ≤ m) (hml : m ≤ 4194304) (hok : (needX a z σ.n xs).2 = 0) :
    Calls Try.prog 9 #[.pointer (some ⟨g, 0, none⟩), .slice ea m cap] w fun e w' => ∃ c s, e = .returned (.int .i64 c) ∧ RunD (wrF σ.bytes a xs) σ c s ∧ Atd w b L σ w' s (wrF σ.bytes a xs).length := by
  have hmx := hd.ok.max
  have hB64 := hd.ok.len
  have hb256 := hd.ok.byte
  obtain ⟨hfine, hnd, hroom⟩ := need_good hB64 ha hz haz hmx hok
  have k := lnumber_any h hd ha8 (by omega)
  rw [hnum] at k
  have knd := fun W (hB : Below w.heap.size w W) => lneed_any cap m (h.below hB) (hd.dev.below hB) hmx (by omega) hz (he.below hB) hm (by omega)
  rw [hnd, hok] at knd
  obtain ⟨nd, hndv⟩ : ∃ nd, (recsB σ.bytes xs).length = nd := ⟨_, rfl⟩
  have hnd1 : 25 ≤ nd := by
    rw [← hndv]
    cases xs with
    | nil => simp at hm; omega
    | cons x t =>
      have e : recsB σ.bytes (x :: t) = recOf σ.bytes x ++ recsB σ.bytes t := rfl
      have hfx := hfine x (by simp)
      rw [e, List.length_append, rec_len hfx hB64]
      unfold rlen
      have := hfx.2.1
      omega
  rw [hndv] at knd
  have hroom2 : nd ≤ z - 64 := by rw [← hndv]; exact hroom
  have KST := hide (fun W (hB : Below w.heap.size w W) => lstore_any (cap := cap) (h.below hB) (hd.below hB) ha hz haz (by omega) (he.below hB) hm hml hfine hroom)
  have hrs := Recs.start (a := a) (N := σ.n) (B := σ.bytes) hd.ok rfl
  have KN := hide k
  have KND := hide knd
  have HL := hide h
  have HD := hide hd
  have HM := hide hm
  have HNDV := hide hndv
  have HFINE := hide hfine
  have ndI : ¬ ((nd : Int) = 0) := by omega
  have ndb : ((nd : Int) == 0) = false := by simpa using ndI
  obtain ⟨B, hBs⟩ : ∃ B, σ.bytes = B := ⟨_, rfl⟩
  have HBS := hide hBs
  unfold wrF
  rw [hBs] at KST HNDV ⊢
  clear k knd h hd he hm hok hnum hfine hnd hroom hndv hrs hBs
  go_enter Try.func9, Try.ntmps9
  go_upto_region 10 with (first | (go_at_call 30; refine (KN.out).mono ?_; rintro e W1 ⟨rfl, hB⟩; have HB := hide hB; clear hB) | (go_at_call 31; refine (KND.out _ HB.out).mono ?_; rintro e W2 ⟨rfl, hB⟩; have HB2 := hide (bseq HB.out hB); clear hB) | (go_at_call 32; refine (KST.out _ HB2.out).mono ?_; rintro e W3 ⟨c3, s3, rfl, hrun, hatd⟩; have HRUN := hide hrun; have HATD := hide (hatd.base HB2.out); clear hrun hatd))
  by_cases hc3 : c3 = 0
  · subst hc3
    have hmx2 := hmx
    obtain ⟨rw1, rw2⟩ := Recs.whole (z := z) HD.out.ok rfl HBS.out.symm HFINE.out (by rw [HNDV.out]; exact hroom2) hz haz (by omega)
    have e3 := HRUN.out.zero
    rw [← e3] at rw1
    have hl3 := rw1.like
    rw [HNDV.out] at rw2
    have n3 := hl3.n
    have o3 := hl3.ops
    obtain ⟨L3, hdv3, hg3, hf3, hN3⟩ := HD.out.went HATD.out hl3 (by omega)
    have hlog3 := HL.out.atd HD.out.dev HATD.out
    have hdv4 := hdv3.below (w' := W3.drew) (Below.refl _ W3).drew
    have KRG := hide (dv_range (a + 64) nd hdv4 (by omega) (by omega) (by rw [n3]; omega))
    have S12 := hide hlog3.drew
    have HDV4 := hide hdv4
    have HG3 := hide hg3
    have HF3 := hide hf3
    have HN3 := hide hN3
    have HL3 := hide hl3
    have hf4 := rng_few (at_ := a + 64) (n := nd) (by omega)
    clear hlog3 hdv3 hdv4 hg3 hf3 hN3 rw1 hl3 e3
    go_upto_region 12 with (fail)
    refine wp_region_held_drew (S := fun Y => LogL Y g b a z) (by kernel_rfl) S12.out (fun hS => ?_)
    refine wpAnyH_take (i := 0) (v := (.pointer (some ⟨g, 0, none⟩))) rfl (by kernel_rfl) (by kernel_rfl) (by kernel_rfl) (fun _ _ _ h => h) (Or.inl ⟨by kernel_rfl, fun w' hw => by (go_simp)⟩) hS ?_
    refine wpAnyH_take (i := 1) (v := (.pointer (some ⟨g, 0, none⟩))) rfl (by kernel_rfl) (by kernel_rfl) (by kernel_rfl) (fun _ _ _ h => h) (Or.inl ⟨by kernel_rfl, fun w' hw => by (go_simp)⟩) hS ?_
    refine wpAnyH_take (i := 2) (v := (.pointer (some ⟨g, 1, none⟩))) rfl (by kernel_rfl) (by kernel_rfl) (by kernel_rfl) (fun _ _ _ h => h) (Or.inl ⟨by kernel_rfl, fun w' hw => by (go_simp)⟩) hS ?_
    refine wpAnyH_take (i := 3) (v := (.pointer (some ⟨b, 0, none⟩))) rfl (by kernel_rfl) (by kernel_rfl) (by kernel_rfl) (fun _ _ _ h => h) (Or.inl ⟨by kernel_rfl, fun w' hw => by (have z1 := LogL.c1 hw; go_simp)⟩) hS ?_
    refine wpAnyH_take (i := 4) (v := (.pointer (some ⟨g, 0, none⟩))) rfl (by kernel_rfl) (by kernel_rfl) (by kernel_rfl) (fun _ _ _ h => h) (Or.inl ⟨by kernel_rfl, fun w' hw => by (go_simp)⟩) hS ?_
    refine wpAnyH_take (i := 6) (v := (.int .i64 (nd : Int))) rfl (by kernel_rfl) (by kernel_rfl) (by kernel_rfl) (fun _ _ _ h => h) (Or.inl ⟨by kernel_rfl, fun w' hw => by (go_simp)⟩) hS ?_
    refine wpAnyH_goS (i := 5) (by kernel_rfl) rfl (by kernel_rfl) (fun K hK => ?_)
    go_wp2_with (go_at_call 34; refine (lroom_any S12.out (by omega)).mono ?_; rintro e w' ⟨rfl, hw⟩; obtain rfl := hw.symm)
    have hS2 := hS
    refine hK.out _ _ hS2 ?_
    clear hK K
    refine wpAnyH_goS (i := 7) (by kernel_rfl) rfl (by kernel_rfl) (fun K hK => ?_)
    go_wp2_with (go_at_call 33; refine (KRG.out).mono ?_; rintro e W5 ⟨c, s5, rfl, hrun, hatd⟩; have HRUN5 := hide hrun; have HATD5 := hide hatd; clear hrun hatd)
    have hS3 := (S12.out.atd HDV4.out.dev HATD5.out)
    refine hK.out _ _ hS3 ?_
    clear hK K
    refine wpAnyH_take (i := 8) (v := (.int .i64 c)) rfl (by kernel_rfl) (by kernel_rfl) (by kernel_rfl) (fun _ _ _ h => h) (Or.inl ⟨by kernel_rfl, fun w' hw => by (go_simp)⟩) hS3 ?_
    refine wpAnyH_done (by kernel_rfl) ?_ _
    simp only [Act.put, List.getElem_toArray, List.getElem_cons_zero, List.getElem_cons_succ, List.setIfInBounds_toArray, List.set_cons_zero, List.set_cons_succ]
    by_cases hc : c = 0
    · subst hc
      have e5 := HRUN5.out.zero
      have hl5 := acts_like (N := σ.n) (rngF (a + 64) nd) s3 (rng_good _ _) HL3.out.ok n3 (by omega)
      rw [← e5] at hl5
      have n5 := hl5.n
      have o5 := hl5.ops
      obtain ⟨L5, hdv5, hg5, hf5, hN5⟩ := HDV4.out.went HATD5.out hl5 (by omega)
      have hlog5 := S12.out.atd HDV4.out.dev HATD5.out
      have KPB := hide (lpub_any m hlog5 hdv5 (by omega) (by omega) ha8 (by rw [n5, n3]; omega))
      have HG5 := hide hg5
      have HF5 := hide hf5
      have HN5 := hide hN5
      have HL5 := hide hl5
      clear hlog5 hdv5 hg5 hf5 hN5 hl5 e5 hS hS2 hS3
      go_wp2_with (go_at_call 35; refine (KPB.out).mono ?_; rintro e W7 ⟨c7, s7, rfl, hrun, hatd⟩; have HRUN7 := hide hrun; have HATD7 := hide hatd; clear hrun hatd)
      go_ret
      rw [HM.out]
      refine ⟨c7, s7, rfl, HRUN.out.app0 ?_ HL3.out.arms, ?_⟩
      · rw [HNDV.out]
        exact HRUN5.out.app0 HRUN7.out HL5.out.arms
      · obtain ⟨q1, L7, q2, q3, q4⟩ := HATD7.out
        have a5 : Atd w b L σ W5 s5 ((recsF B (a + 64) xs).length + (rngF (a + 64) nd).length) := by
          obtain ⟨p1, L6, p2, p3, p4⟩ := HATD5.out
          exact Atd.go (HG3.out.trans (Gr.of_below (Below.refl _ W3).drew) (fun i h => .inl h)) HF3.out HN3.out p2 p3 p1 p4
        have h9 := Atd.go (L' := L5) (m := (recsF B (a + 64) xs).length + (rngF (a + 64) nd).length) a5.1 (fun k hk => ?_) ?_ q2 q3 q1 q4
        · rw [HNDV.out, List.length_append, List.length_append, ← Nat.add_assoc]
          exact h9
        · rcases HF5.out k hk with h1 | h1
          · exact HF3.out k h1
          · exact .inr (Nat.le_trans HG3.out.size h1)
        · have := HN5.out
          have := HN3.out
          omega
    · have h5 := HRUN5.out.five hc
      subst h5
      go_wp2_with (fail)
      go_ret
      refine ⟨5, s5, rfl, HRUN.out.app0 (by rw [HNDV.out]; exact HRUN5.out.app5) HL3.out.arms, ?_⟩
      obtain ⟨p1, L6, p2, p3, p4⟩ := HATD5.out
      have h9 := Atd.go (HG3.out.trans (Gr.of_below (Below.refl _ W3).drew) (fun i h => .inl h)) HF3.out HN3.out p2 p3 p1 p4
      exact h9.more (by rw [HNDV.out, List.length_append, List.length_append]; omega)
  · have h5 := HRUN.out.five hc3
    subst h5
    go_wp2_with (fail)
    go_ret
    exact ⟨5, s3, rfl, HRUN.out.app5, HATD.out.more (by rw [List.length_append]; omega)⟩
end Go.Proofs.Ytadmekikdaocoaa
namespace Go.Proofs.Ytadmekikdaocoaa
open Go.RowKit Go.Shelf
set_option linter.unusedVariables false
set_option maxRecDepth 100000

theorem results_rowU {P : Program} {fn : Func} {p u : Tmp} {ty : TypeId} (h : fn.results = #[.cell p ty, .tmp u]) (tmps : Array Value) (w : World) (g : Nat) (t : TypeId) (cs : Array Value) (fr : Nat × Nat) (d : TypeDesc)
    (hp : tmps.getD p undef = .pointer (some ⟨g, 0, none⟩)) (hg : w.heap[g]? = some (.cells cs t fr))
    (hu : P.underlying ty = some d) (hd : (match d with | .struct _ | .array _ _ => true | _ => false) = true) (hi : (P.info? ty).map (·.size) = some cs.size) :
    (results fn tmps).run P w = .ok (.tuple #[.agg cs, tmps.getD u undef]) w := by
  rw [results_cell_tmp h, hp]
  simp [asAddr, run_loadVar_row w g t ty cs fr d hg hu hd hi]
theorem results_cell_tmp3 {fn : Func} {p u q : Tmp} {ty : TypeId} (h : fn.results = #[.cell p ty, .tmp u, .tmp q]) (tmps : Array Value) (P : Program) (w : World) :
    (results fn tmps).run P w = ((asAddr (tmps.getD p undef)).run P w).andThen fun a w₁ => ((loadVar ty a).run P w₁).andThen fun v w₂ => .ok (.tuple #[v, tmps.getD u undef, tmps.getD q undef]) w₂ := by
  simp only [results, h]
  simp [Sem.run_bind, Result.andThen]
theorem results_rowU3 {P : Program} {fn : Func} {p u v : Tmp} {ty : TypeId} (h : fn.results = #[.cell p ty, .tmp u, .tmp v]) (tmps : Array Value) (w : World) (g : Nat) (t : TypeId) (cs : Array Value) (fr : Nat × Nat) (d : TypeDesc)
    (hp : tmps.getD p undef = .pointer (some ⟨g, 0, none⟩)) (hg : w.heap[g]? = some (.cells cs t fr))
    (hu : P.underlying ty = some d) (hd : (match d with | .struct _ | .array _ _ => true | _ => false) = true) (hi : (P.info? ty).map (·.size) = some cs.size) :
    (results fn tmps).run P w = .ok (.tuple #[.agg cs, tmps.getD u undef, tmps.getD v undef]) w := by
  rw [results_cell_tmp3 h, hp]
  simp [asAddr, run_loadVar_row w g t ty cs fr d hg hu hd hi]
/-- Two cells are stored into a variable. -/
def set2 (W : World) (B : Nat) (v0 v1 : Value) : World := (W.setCell ⟨B, 0, none⟩ v0).setCell ⟨B, 1, none⟩ v1
theorem chain2 {W : World} {B : Nat} {a0 a1 : Value} {ty : TypeId} (hR : W.heap[B]? = some (.cells #[a0, a1] ty (0, 0))) (v0 v1 : Value) :
    (W.cell? ⟨B, 0, none⟩ = some a0 ∧ (W.setCell ⟨B, 0, none⟩ v0).cell? ⟨B, 1, none⟩ = some a1) ∧ (W.frozen? ⟨B, 0, none⟩ = false ∧ W.frozen? ⟨B, 1, none⟩ = false) ∧
    (set2 W B v0 v1).heap[B]? = some (.cells #[v0, v1] ty (0, 0)) ∧ (∀ base a, base ≤ B → Below base a W → Below base a (set2 W B v0 v1)) ∧ (∀ k, k ≠ B → (set2 W B v0 v1).heap[k]? = W.heap[k]?) := by
  have R1 := heap_setCell_same W B 0 _ _ v0 hR
  have R2 := heap_setCell_same _ B 1 _ _ v1 R1
  refine ⟨⟨cell8 hR 0, cell8 R1 1⟩, ⟨froz8 hR 0, froz8 hR 1⟩, R2, fun base a hb hB => (hB.setCell hb _).setCell hb _, fun k hk => ?_⟩
  unfold set2
  rw [heap_setCell_other _ _ _ _ hk, heap_setCell_other _ _ _ _ hk]
theorem leV_of {v : Nat} (h : v < 18446744073709551616) : leV (leB 8 v) = v := by
  rw [leV_leB, show (256 : Nat) ^ 8 = 18446744073709551616 by decide, Nat.mod_eq_of_lt h]
theorem drop_take_take {B : List Nat} {at_ p n m : Nat} (h : p + n ≤ m) : (((B.drop at_).take m).drop p).take n = (B.drop (at_ + p)).take n := by
  rw [List.drop_take, List.take_take, Nat.min_eq_left (by omega), List.drop_drop]
set_option maxHeartbeats 400000 in
theorem lextent_ok {w : World} {g b a z : Nat} {L : Lay} {σ : St} (at_ xn ln : Nat) (h : LogL w g b a z) (hd : Dv w b L σ) (haz : a + z ≤ 64 * σ.n) (hat : at_ + 24 ≤ a + z) (hx : (σ.bytes.drop at_).take 8 = leB 8 xn) (hl : (σ.bytes.drop (at_ + 8)).take 8 = leB 8 ln) (hxn : xn ≤ 4194304) (hln : ln ≤ 4194304) (hmay : mayV a z σ.n (xn : Int) (ln : Int) = true) :
    Calls Try.prog 61 #[.pointer (some ⟨g, 0, none⟩), .int .i64 (at_ : Int)] w fun e w' => e = .returned (.tuple #[.agg #[.int .i64 (xn : Int), .int .i64 (ln : Int)], .int .i64 0]) ∧ Below w.heap.size w w' := by
  have hmx := hd.ok.max
  have hA : Below w.heap.size w (w.alloc (.cells #[.int .i64 0, .int .i64 0] 58)) := (Below.refl _ w).alloc (Nat.le_refl _) _
  have hnw := heap_alloc_new w (.cells #[.int .i64 0, .int .i64 0] 58)
  have hlog := h.below hA
  have KE := hide (lend_any hlog (by omega))
  have hA2 := bseq hA (Below.refl _ _).drew
  have KL := hide (dv_load (at_ := at_) (n := 24) (hd.below hA2) (by omega))
  have hb24 : ((σ.bytes.drop at_).take 24).length = 24 := by rw [List.length_take, List.length_drop, hd.ok.len]; omega
  have hb256 : ∀ y ∈ (σ.bytes.drop at_).take 24, y < 256 := fun y hy => hd.ok.byte y (List.mem_of_mem_drop (List.mem_of_mem_take hy))
  have q0 : leV ((((σ.bytes.drop at_).take 24).drop 0).take 8) = xn := by rw [drop_take_take (by omega), Nat.add_zero, hx, leV_of (by omega)]
  have q8 : leV ((((σ.bytes.drop at_).take 24).drop 8).take 8) = ln := by rw [drop_take_take (by omega), hl, leV_of (by omega)]
  have KT0 := hide (fun (W : World) (R : Nat) (hO : OwnB W R ((σ.bytes.drop at_).take 24)) => show Calls Try.prog 78 #[.slice (some ⟨R, 0, none⟩) 24 24, .int .i64 0] W fun e w' => e = .returned (.int .i64 (xn : Int)) ∧ w' = W by
    have k := ltake_any (a := some ⟨R, 0, none⟩) 24 0 W (hO.sl hb256) hb24 (by omega)
    rw [q0, IntWalk.wrap64_in _ (by omega)] at k
    exact k)
  have KT8 := hide (fun (W : World) (R : Nat) (hO : OwnB W R ((σ.bytes.drop at_).take 24)) => show Calls Try.prog 78 #[.slice (some ⟨R, 0, none⟩) 24 24, .int .i64 8] W fun e w' => e = .returned (.int .i64 (ln : Int)) ∧ w' = W by
    have k := ltake_any (a := some ⟨R, 0, none⟩) 24 8 W (hO.sl hb256) hb24 (by omega)
    rw [q8, IntWalk.wrap64_in _ (by omega)] at k
    exact k)
  have km := fun W (hB : Below w.heap.size w W) => lmay_any (xn : Int) (ln : Int) (h.below hB) (hd.dev.below hB) hmx (by omega) (by omega) (by omega)
  rw [hmay] at km
  have KM := hide km
  generalize (σ.bytes.drop at_).take 24 = B24 at *
  have HLOG := hide hlog
  have HNW := hide hnw
  have HA2 := hide hA2
  have wm : IntKind.i64.wrap (((a + z : Nat) : Int) - 24) = ((a + z : Nat) : Int) - 24 := by rw [IntKind.wrap_i64]; omega
  have hcmp : ¬ ((a + z : Nat) : Int) - 24 < (at_ : Int) := by omega
  obtain ⟨AZ, hAZ⟩ : ∃ AZ, a + z = AZ := ⟨_, rfl⟩
  rw [hAZ] at KE wm hcmp
  clear h hd hx hl hmay km hlog hnw hA hA2 hb24 hb256 q0 q8 hAZ
  go_enter Try.func61, Try.ntmps61
  go_upto_region 3 with (go_at_call 56; refine (KE.out).mono ?_; rintro e w' ⟨rfl, hw⟩; obtain rfl := hw.symm)
  have c1 := HLOG.out.drew.c1
  go_upto_region 7 with (first
    | (go_at_call 24; refine (KL.out).mono ?_; rintro e W2 ⟨RR, rfl, hRn, hRo, hRb⟩; have HRO := hide hRo; have HRB := hide hRb; have KT0R := hide (KT0.out W2 RR hRo); have KT8R := hide (KT8.out W2 RR hRo); clear hRn hRo hRb)
    | (go_at_call 78; refine (KT0R.out).mono ?_; rintro e w' ⟨rfl, hw⟩; obtain rfl := hw.symm; clear KT0R)
    | (go_at_call 78; refine (KT8R.out).mono ?_; rintro e w' ⟨rfl, hw⟩; obtain rfl := hw.symm; clear KT8R))
  have hA3 : Below W2.heap.size W2 (W2.alloc (.cells #[.int .i64 (xn : Int), .int .i64 (ln : Int)] 58)) := (Below.refl _ W2).alloc (Nat.le_refl _) _
  have hb3 := bseq (bseq HA2.out HRB.out) hA3
  have KM3 := hide (KM.out _ hb3)
  have HNEW := hide (heap_alloc_new W2 (.cells #[.int .i64 (xn : Int), .int .i64 (ln : Int)] 58))
  have HR0 := hide (row_keepU (row_keepU (show (w.alloc (.cells #[.int .i64 0, .int .i64 0] 58)).drew.heap[w.heap.size]? = _ from HNW.out) HRB.out) hA3)
  have HB3 := hide hb3
  clear hb3 hA3
  go_upto_region 9 with (go_at_call 54; refine (KM3.out).mono ?_; rintro e W4 ⟨rfl, hb⟩; have HB4 := hide hb; clear hb)
  have r0 := row_keepU HR0.out HB4.out
  have r8 := row_keepU HNEW.out HB4.out
  have x0 : W4.cell? ⟨W2.heap.size, 0, none⟩ = some (.int .i64 (xn : Int)) := cell8 r8 0
  have x1 : W4.cell? ⟨W2.heap.size, 1, none⟩ = some (.int .i64 (ln : Int)) := cell8 r8 1
  obtain ⟨⟨d0, d1⟩, ⟨f0, f1⟩, RR2, BB, _⟩ := chain2 r0 (.int .i64 (xn : Int)) (.int .i64 (ln : Int))
  have R9 := hide RR2
  have B9 := hide (BB w.heap.size w (Nat.le_refl _) (bseq HB3.out HB4.out))
  clear RR2 BB r0 r8
  go_wp2_with (fail)
  (try simp only [Exit.inBlock, Exit.then])
  refine bodyPost_ret (results_rowU rfl _ _ w.heap.size _ _ _ _ rfl R9.out Try.underlying58 rfl (by kernel_rfl)) rfl ?_
  exact ⟨rfl, B9.out⟩
/-- Bytes that are the same are equal. -/
theorem bequal_same {w : World} {a b : Addr} {bs : List Nat} (c d n : Nat) (hn : bs.length = n) (ha : Sl w (some a) bs) (hb : Sl w (some b) bs) (h1 : 1 ≤ n) : Calls Try.prog 62 #[.slice (some a) n c, .slice (some b) n d] w fun e w' => e = .returned (.bool true) ∧ w' = w := by
  have cv : ∀ (ad : Addr) (cap : Nat), Sl w (some ad) bs → (convert 33 9 (.slice (some ad) n cap)).run Try.prog w = .ok (.string ⟨(bs.map Nat.toUInt8).toArray⟩) w := fun ad cap hs => by
    rw [← hn]
    have hl : (bs.map Nat.toUInt8).length = bs.length := by simp
    have k := run_convert_bytes_back (P := Try.prog) w 33 9 5 ad cap (bs.map Nat.toUInt8) Try.underlying33 Try.underlying5 Try.underlying9 (fun j hj => ?_)
    · rw [hl] at k
      exact k
    · rcases hs with e | ⟨g, o, e, hg, hc⟩
      · rw [e] at hj; simp at hj
      · cases e
        have hj2 : j < bs.length := by rw [hl] at hj; exact hj
        obtain ⟨c1, c2⟩ := hc j bs[j] (List.getElem?_eq_getElem hj2)
        rw [Addr.add_mid, c1]
        simp
        omega
  have cva := cv a c ha
  have cvb := cv b d hb
  generalize (⟨(bs.map Nat.toUInt8).toArray⟩ : ByteArray) = S at *
  clear cv ha hb
  go_enter Try.func62, Try.ntmps62
  go_wp2
  go_ret
  exact ⟨rfl, rfl⟩
theorem slice_old (R n l : Nat) (hl : 1 ≤ l) (hn : 24 + l ≤ n) (hsm : n ≤ 4194304) (w : World) : (Instr.sliceAt 33 (.slice (some ⟨R, 0, none⟩) n n) (some (.int .i64 24)) (some (.int .i64 ((24 + l : Nat) : Int))) none).run Try.prog w = .ok (.slice (some ⟨R, 24, none⟩) l (n - 24)) w := by
  obtain ⟨it, h1, h2⟩ := info_of (t := 5) (n := 1) (by kernel_rfl)
  have hu : Try.prog.underlying 33 = some (.slice 5) := by kernel_rfl
  have c1 : (0 : Int) ≤ ((24 + l : Nat) : Int) ∧ ((24 + l : Nat) : Int) ≤ (n : Int) := by omega
  have e1 : ((24 + l : Nat) : Int).toNat = 24 + l := by omega
  have e2 : 24 + l - 24 = l := by omega
  have e3 : ¬ n = 24 := by omega
  generalize ((24 + l : Nat) : Int) = T at *
  simp [Instr.sliceAt, Instr.slice, Sem.run_bind, run_underlying hu, Instr.sliceBounds, Instr.sliceBound, asIntOf, sizeOf, typeInfo, h1, h2, Addr.add_mid, c1, e1, e2, e3]
  intro hh
  exfalso
  omega
/-- The record that lies at a place is told. -/
def RecAt (B : List Nat) (at_ : Nat) (xn : Nat) (old : List Nat) : Prop := (B.drop at_).take (recB xn old).length = recB xn old
theorem rec_parts {B : List Nat} {at_ xn : Nat} {old : List Nat} (h : RecAt B at_ xn old) : (B.drop at_).take 8 = leB 8 xn ∧ (B.drop (at_ + 8)).take 8 = leB 8 old.length := by
  have hl := recB_len xn old
  have l1 : (leB 8 xn).length = 8 := leB_length 8 _
  have l2 : (leB 8 old.length).length = 8 := leB_length 8 _
  unfold RecAt at h
  refine ⟨?_, ?_⟩
  · have e : (B.drop at_).take 8 = ((B.drop at_).take (recB xn old).length).take 8 := by rw [List.take_take, Nat.min_eq_left (by omega)]
    rw [e, h]
    unfold recB recH
    rw [List.append_assoc, List.take_left' l1]
  · have e : (B.drop (at_ + 8)).take 8 = (((B.drop at_).take (recB xn old).length).drop 8).take 8 := (drop_take_take (by omega)).symm
    rw [e, h]
    unfold recB recH
    rw [List.append_assoc, List.drop_left' l1, List.append_assoc, List.take_left' l2]
set_option maxHeartbeats 1000000 in
theorem lread_ok {w : World} {g b a z : Nat} {L : Lay} {σ : St} (at_ xn : Nat) (old : List Nat) (h : LogL w g b a z) (hd : Dv w b L σ) (haz : a + z ≤ 64 * σ.n) (hat : at_ + (recB xn old).length ≤ a + z) (hrec : RecAt σ.bytes at_ xn old) (hol : 1 ≤ old.length) (hxn : xn ≤ 4194304) (hmay : mayV a z σ.n (xn : Int) (old.length : Int) = true) :
    Calls Try.prog 36 #[.pointer (some ⟨g, 0, none⟩), .int .i64 (at_ : Int)] w fun e w' => ∃ R, e = .returned (.tuple #[.agg #[.int .i64 (xn : Int), .slice (some ⟨R, 24, none⟩) old.length ((recB xn old).length - 24)], .int .i64 (((recB xn old).length : Nat) : Int), .int .i64 0]) ∧ w.heap.size ≤ R ∧ OwnB w' R (recB xn old) ∧ Below w.heap.size w w' := by
  have hmx := hd.ok.max
  have hrl := recB_len xn old
  obtain ⟨p8, p16⟩ := rec_parts hrec
  have hpad : padN old.length < 8 := by unfold padN; omega
  have hold : ∀ y ∈ old, y < 256 := fun y hy => by
    have h5 : y ∈ recB xn old := by unfold recB; simp [hy]
    rw [← hrec] at h5
    exact hd.ok.byte y (List.mem_of_mem_drop (List.mem_of_mem_take h5))
  have hr256 := recB_lt xn old hold
  have KX := hide (fun W (hB : Below w.heap.size w W) => lextent_ok at_ xn old.length (h.below hB) (hd.below hB) haz (by omega) p8 p16 hxn (by omega) hmay)
  have hnv : needV 0 [(old.length : Int)] = ((((recB xn old).length : Nat) : Int), 0) := by
    have hr := roundV_pad (l := (old.length : Int)) (by omega) (by omega)
    unfold needV
    rw [hr, if_neg (by simp; omega)]
    unfold needV
    rw [hrl]
    simp
  have KN := hide (fun (W : World) => show Calls Try.prog 55 #[.slice (some ⟨W.heap.size, 0, none⟩) 1 1] (W.alloc (.cells #[.int .i64 (old.length : Int)] 3)) fun e w' => e = .returned (.tuple #[.int .i64 (((recB xn old).length : Nat) : Int), .int .i64 0]) ∧ w' = W.alloc (.cells #[.int .i64 (old.length : Int)] 3) by
    have hnw := heap_alloc_new W (.cells #[.int .i64 (old.length : Int)] 3)
    have k := need_any (a := some ⟨W.heap.size, 0, none⟩) (zs := [(old.length : Int)]) 1 1 (w := W.alloc (.cells #[.int .i64 (old.length : Int)] 3)) ⟨fun z hz => by rw [List.mem_singleton.1 hz]; omega, .inr ⟨W.heap.size, 0, rfl, lt_of_heap hnw, fun i z hz => by
      match i, hz with
      | 0, hz => simp at hz; subst hz; exact cell8 hnw 0
      | i + 1, hz => simp at hz⟩⟩ rfl (by omega)
    rw [hnv] at k
    exact k)
  have KE := hide (fun W (hB : Below w.heap.size w W) => lend_any (h.below hB) (by omega))
  have kl := fun W (hB : Below w.heap.size w W) => dv_load (at_ := at_) (n := (recB xn old).length) (hd.below hB) (by omega)
  unfold RecAt at hrec
  rw [hrec] at kl
  have KL := hide kl
  have KLA := hide (fun (W : World) (R : Nat) (hO : OwnB W R (recB xn old)) => llaid_any xn R 24 old ((recB xn old).length - 24) W (fun i y hy => ⟨hO.cell (24 + i) y (by
    unfold recB
    rw [List.getElem?_append_right (by rw [recH_len]; omega), recH_len, show 24 + i - 24 = i by omega, List.getElem?_append_left (List.getElem?_eq_some_iff.1 hy).1]
    exact hy), hold y (List.mem_of_getElem? hy)⟩) hO.lt hol (by omega) (by omega) hold)
  have SO := hide (fun (R : Nat) W => slice_old R (recB xn old).length old.length hol (by omega) (by omega) W)
  obtain ⟨ln, hln⟩ : ∃ ln, old.length = ln := ⟨_, rfl⟩
  obtain ⟨rb, hrb⟩ : ∃ rb, recB xn old = rb := ⟨_, rfl⟩
  obtain ⟨rl, hrlv⟩ : ∃ rl, rb.length = rl := ⟨_, rfl⟩
  have HLOG := hide h
  rw [hrb] at hat hrl hr256 KN KL KLA SO ⊢
  rw [hln] at hrl KX KN KLA SO ⊢
  rw [hrlv] at hat hrl KN KL KLA SO ⊢
  have HR256 := hide hr256
  have HRLV := hide hrlv
  have hA : Below w.heap.size w (w.alloc (.cells #[.int .i64 0, .slice none 0 0] 63)) := (Below.refl _ w).alloc (Nat.le_refl _) _
  have HNW := hide (heap_alloc_new w (.cells #[.int .i64 0, .slice none 0 0] 63))
  have HA := hide hA
  have hrl1 : 25 ≤ rl ∧ rl ≤ 4194304 := by omega
  obtain ⟨tl, htl⟩ : ∃ tl, 24 + ln = tl := ⟨_, rfl⟩
  have wm24 : IntKind.i64.wrap (24 + (ln : Int)) = (tl : Int) := by rw [IntKind.wrap_i64]; omega
  rw [htl] at SO
  clear htl
  obtain ⟨AZ, hAZ⟩ : ∃ AZ, a + z = AZ := ⟨_, rfl⟩
  rw [hAZ] at KE hat haz
  have wme : IntKind.i64.wrap ((AZ : Int) - (at_ : Int)) = (AZ : Int) - (at_ : Int) := by rw [IntKind.wrap_i64]; omega
  have hcmp : ¬ (AZ : Int) - (at_ : Int) < (rl : Int) := by omega
  clear h hd hrec hmay p8 p16 hold hr256 hnv kl hA hln hrb hrlv hAZ hol hrl
  go_enter Try.func36, Try.ntmps36
  go_upto_region 4 with (go_at_call 61; refine (KX.out _ HA.out).mono ?_; rintro e W1 ⟨rfl, hb⟩; have HB1 := hide hb; clear hb)
  have hA1 : Below W1.heap.size W1 (W1.alloc (.cells #[.int .i64 (xn : Int), .int .i64 (ln : Int)] 58)) := (Below.refl _ W1).alloc (Nat.le_refl _) _
  have HE1 := hide (heap_alloc_new W1 (.cells #[.int .i64 (xn : Int), .int .i64 (ln : Int)] 58))
  have HR1 := hide (row_keepU (row_keepU HNW.out HB1.out) hA1)
  have HB2 := hide (bseq (bseq HA.out HB1.out) hA1)
  have x0 : (W1.alloc (.cells #[.int .i64 (xn : Int), .int .i64 (ln : Int)] 58)).cell? ⟨W1.heap.size, 0, none⟩ = some (.int .i64 (xn : Int)) := cell8 HE1.out 0
  have x1 : (W1.alloc (.cells #[.int .i64 (xn : Int), .int .i64 (ln : Int)] 58)).cell? ⟨W1.heap.size, 1, none⟩ = some (.int .i64 (ln : Int)) := cell8 HE1.out 1
  generalize W1.alloc (.cells #[.int .i64 (xn : Int), .int .i64 (ln : Int)] 58) = X1 at *
  generalize W1.heap.size = ev at *
  clear hA1
  have hA2 : Below X1.heap.size X1 (X1.alloc (.cells #[.int .i64 (ln : Int)] 3)) := (Below.refl _ X1).alloc (Nat.le_refl _) _
  have HB3 := hide (bseq HB2.out hA2)
  have KN1 := hide (KN.out X1)
  have KE1 := hide (KE.out _ HB3.out)
  have HE2 := hide (row_keepU HE1.out hA2)
  have HR2 := hide (row_keepU HR1.out hA2)
  clear hA2
  go_upto_region 7 with (first
    | (go_at_call 55; refine (KN1.out).mono ?_; rintro e w' ⟨rfl, hw⟩; obtain rfl := hw.symm)
    | (go_at_call 56; refine (KE1.out).mono ?_; rintro e w' ⟨rfl, hw⟩; obtain rfl := hw.symm))
  have c1 := (HLOG.out.below (HB3.out.drew)).c1
  have KL1 := hide (KL.out _ HB3.out.drew)
  go_upto_region 10 with (go_at_call 24; refine (KL1.out).mono ?_; rintro e W4 ⟨RR, rfl, hRn, hRo, hRb⟩; have HRO := hide hRo; have HRN := hide hRn; have HRB := hide hRb; clear hRn hRo hRb)
  have r4 := row_keepU (show (X1.alloc (.cells #[.int .i64 (ln : Int)] 3)).drew.heap[ev]? = _ from HE2.out) HRB.out
  have y0 : W4.cell? ⟨ev, 0, none⟩ = some (.int .i64 (xn : Int)) := cell8 r4 0
  have y1 : W4.cell? ⟨ev, 1, none⟩ = some (.int .i64 (ln : Int)) := cell8 r4 1
  have so := fun W => SO.out RR W
  have KLA1 := hide (KLA.out W4 RR HRO.out)
  clear r4
  go_upto_region 13 with (first
    | (go_at_call 57; refine (KLA1.out).mono ?_; rintro e W5 ⟨rv, rfl, hrv, hb5⟩; obtain ⟨rg, rcap, rfl, hsl, _, _, _⟩ := OwnR.slice hrv HR256.out (by rw [HRLV.out]; omega); rw [HRLV.out]; have KEQ := hide (bequal_same rl rcap rl HRLV.out ((HRO.out.below hb5 HRO.out.lt).sl HR256.out) hsl (by omega)); have HB5 := hide hb5; clear hrv hb5 hsl)
    | (go_at_call 62; refine (KEQ.out).mono ?_; rintro e w' ⟨rfl, hw⟩; obtain rfl := hw.symm))
  have r5 := row_keepU (row_keepU (show (X1.alloc (.cells #[.int .i64 (ln : Int)] 3)).drew.heap[ev]? = _ from HE2.out) HRB.out) HB5.out
  have z0 : W5.cell? ⟨ev, 0, none⟩ = some (.int .i64 (xn : Int)) := cell8 r5 0
  have q5 := row_keepU (row_keepU (show (X1.alloc (.cells #[.int .i64 (ln : Int)] 3)).drew.heap[w.heap.size]? = _ from HR2.out) HRB.out) HB5.out
  obtain ⟨⟨d0, d1⟩, ⟨f0, f1⟩, RR2, BB, OO⟩ := chain2 q5 (.int .i64 (xn : Int)) (.slice (some ⟨RR, 24, none⟩) ln (rl - 24))
  have R9 := hide RR2
  have B9 := hide (BB w.heap.size w (Nat.le_refl _) (bseq (bseq HB3.out.drew HRB.out) HB5.out))
  have hne : RR ≠ w.heap.size := by
    have h1 := HRN.out
    have h2 := lt_of_heap HR2.out
    have h3 : (X1.alloc (.cells #[.int .i64 (ln : Int)] 3)).drew.heap.size = (X1.alloc (.cells #[.int .i64 (ln : Int)] 3)).heap.size := rfl
    omega
  have O9 := hide ((HRO.out.below HB5.out HRO.out.lt).of_block (OO RR hne))
  have HLE := hide (Nat.le_trans HB3.out.drew.size HRN.out)
  clear RR2 BB OO r5 q5 hne
  go_wp2_with (fail)
  (try simp only [Exit.inBlock, Exit.then])
  refine bodyPost_ret (results_rowU3 rfl _ _ w.heap.size _ _ _ _ rfl R9.out Try.underlying63 rfl (by kernel_rfl)) rfl ?_
  exact ⟨RR, rfl, HLE.out, O9.out, B9.out⟩
end Go.Proofs.Ytadmekikdaocoaa
namespace Go.Proofs.Ytadmekikdaocoaa
open Go.RowKit Go.Shelf
set_option linter.unusedVariables false
set_option maxRecDepth 100000

/-- Records lie one behind the other, each one that may be. -/
def RecsAt (a z N : Nat) (B : List Nat) : Nat → List (Nat × List Nat) → Prop
  | _, [] => True
  | at_, r :: t => RecAt B at_ r.1 r.2 ∧ 1 ≤ r.2.length ∧ r.1 ≤ 4194304 ∧ mayV a z N (r.1 : Int) (r.2.length : Int) = true ∧ at_ + (recB r.1 r.2).length ≤ a + z ∧ RecsAt a z N B (at_ + (recB r.1 r.2).length) t
/-- Where the records behind the first j begin. -/
def recsLen (rs : List (Nat × List Nat)) : Nat := (rs.map (fun r => (recB r.1 r.2).length)).sum
theorem recsLen_snoc (rs : List (Nat × List Nat)) (r : Nat × List Nat) : recsLen (rs ++ [r]) = recsLen rs + (recB r.1 r.2).length := by simp [recsLen]
theorem RecsAt.drop {a z N : Nat} {B : List Nat} : ∀ (rs : List (Nat × List Nat)) (at_ j : Nat), RecsAt a z N B at_ rs → RecsAt a z N B (at_ + recsLen (rs.take j)) (rs.drop j)
  | [], at_, j, h => by simp [RecsAt]
  | r :: t, at_, 0, h => h
  | r :: t, at_, j + 1, h => by
    have h2 := RecsAt.drop t (at_ + (recB r.1 r.2).length) j h.2.2.2.2.2
    have e : at_ + (recB r.1 r.2).length + recsLen (t.take j) = at_ + recsLen ((r :: t).take (j + 1)) := by simp [recsLen]; omega
    rw [e] at h2
    exact h2
/-- The cells of a record whose bytes lie at block R. -/
def recC (r : Nat × List Nat) (R : Nat) : List Value := [.int .i64 (r.1 : Int), .slice (some ⟨R, 24, none⟩) r.2.length ((recB r.1 r.2).length - 24)]
/-- A row of records, its bytes each in a block of its own. -/
structure RowC (w : World) (base : Nat) (v : Value) (rs : List (Nat × List Nat)) (Rs : List Nat) : Prop where
  len : Rs.length = rs.length
  row : w.ownsRow base 63 2 v rs.length ((rs.zip Rs).flatMap (fun p => recC p.1 p.2))
  own : ∀ (i : Nat) (r : Nat × List Nat) (R : Nat), rs[i]? = some r → Rs[i]? = some R → OwnB w R (recB r.1 r.2) ∧ base ≤ R
  ne : Rs.Pairwise (· < ·)
theorem infoRec : ∃ i, Try.prog.info? 63 = some i ∧ i.zero = some (.agg #[.int .i64 0, .slice none 0 0]) ∧ i.size = 2 ∧ i.bytes = 32 := by
  have h : (Try.prog.info? 63).map (fun i => (i.zero, i.size, i.bytes)) = some (some (.agg #[.int .i64 0, .slice none 0 0]), 2, 32) := by kernel_rfl
  cases hq : Try.prog.info? 63 with
  | none => rw [hq] at h; cases h
  | some i => rw [hq] at h; simp at h; exact ⟨i, rfl, h.1, h.2.1, h.2.2⟩
theorem RowC.keep {w w' : World} {base : Nat} {v : Value} {rs : List (Nat × List Nat)} {Rs : List Nat} (h : RowC w base v rs Rs) (hB : Below w.heap.size w w') : RowC w' base v rs Rs := by
  refine ⟨h.len, ownsRow_of_block h.row (fun g hg => ?_), fun i r R h1 h2 => ?_, h.ne⟩
  · obtain ⟨c', hc'⟩ := own_type h.row hg
    exact hB.block g (lt_of_heap hc')
  · obtain ⟨o1, o2⟩ := h.own i r R h1 h2
    exact ⟨o1.below hB o1.lt, o2⟩
theorem cell_twoU (W : World) (t : TypeId) (a b : Value) : ∀ j u, [a, b][j]? = some u → (W.alloc (.cells #[a, b] t)).cell? ((⟨W.heap.size, 0, none⟩ : Addr).add j) = some u := by
  intro j u hj
  match j, hj with
  | 0, hj => simp at hj; subst hj; simp [Addr.add]
  | 1, hj => simp at hj; subst hj; simp [Addr.add]
  | n + 2, hj => simp at hj
theorem bel_of_grownT {w W W' : World} {v : Value} {n s : Nat} {t : TypeId} {xs : List Value} (h : Below w.heap.size w W) (ho : W.ownsRow w.heap.size t s v n xs) (hg : W.grownBy W' v.ownBlock) : Below w.heap.size w W' := by
  refine ⟨hg.os.trans h.os, hg.tape.trans h.tape, hg.output.trans h.output, Nat.le_trans h.size hg.size, fun k hk => (hg.block k (Nat.lt_of_lt_of_le hk h.size) (fun e => ?_)).trans (h.block k hk)⟩
  rcases ho.2 with ⟨rfl, _⟩ | ⟨g, cap, cur, rfl, hg2, _⟩
  · cases e
  · have e2 : some k = some g := e
    cases e2
    omega
set_option maxHeartbeats 1000000 in
theorem lrecords_ok {w : World} {g b a z : Nat} {L : Lay} {σ : St} (rs : List (Nat × List Nat)) (h : LogL w g b a z) (hd : Dv w b L σ) (ha8 : a % 8 = 0) (hz : 64 ≤ z) (haz : a + z ≤ 64 * σ.n) (hnum : leV ((σ.bytes.drop a).take 8) = rs.length) (hrs : RecsAt a z σ.n σ.bytes (a + 64) rs) (hk : rs.length ≤ 4194304) :
    Calls Try.prog 11 #[.pointer (some ⟨g, 0, none⟩)] w fun e w' => ∃ v Rs, e = .returned (.tuple #[v, .int .i64 0]) ∧ RowC w' w.heap.size v rs Rs ∧ Below w.heap.size w w' := by
  have hmx := hd.ok.max
  obtain ⟨i0, hi0, hz0, hz1, hz2⟩ := infoRec
  have kn := lnumber_any h hd ha8 (by omega)
  rw [hnum] at kn
  obtain ⟨k, hkk⟩ : ∃ k, rs.length = k := ⟨_, rfl⟩
  rw [hkk] at kn hk
  have KN := hide kn
  have KR := hide (fun W (hB : Below w.heap.size w W) => lroom_any (h.below hB) (by omega))
  have KRD := hide (fun W (hB : Below w.heap.size w W) (at_ : Nat) (r : Nat × List Nat) (h1 : RecAt σ.bytes at_ r.1 r.2) (h2 : 1 ≤ r.2.length) (h3 : r.1 ≤ 4194304) (h4 : mayV a z σ.n (r.1 : Int) (r.2.length : Int) = true) (h5 : at_ + (recB r.1 r.2).length ≤ a + z) => lread_ok at_ r.1 r.2 (h.below hB) (hd.below hB) haz h5 h1 h2 h3 h4)
  have HRS := hide hrs
  have HK := hide hkk
  have kI : (k : Int) ≤ 4194304 := by omega
  clear h hd kn hnum hrs hkk
  go_enter Try.func11, Try.ntmps11
  go_wp2_with (first | (go_at_call 30; refine (KN.out).mono ?_; rintro e W1 ⟨rfl, hb⟩; have HB1 := hide hb; clear hb) | (go_at_call 34; refine (KR.out _ HB1.out).mono ?_; rintro e w' ⟨rfl, hw⟩; obtain rfl := hw.symm))
  go_loopw [4, 6, 7] (fun nv rv av wr => ∃ (j : Nat) (Rs : List Nat) (at0 : Nat), nv = .int .u64 ((k - j : Nat) : Int) ∧ av = .int .i64 (at0 : Int) ∧ at0 = a + 64 + recsLen (rs.take j) ∧ j ≤ k ∧ RowC wr w.heap.size rv (rs.take j) Rs ∧ Below w.heap.size w wr) (fun nv _ _ _ => (intOf nv).toNat)
  case atStart => exact ⟨0, [], a + 64, rfl, rfl, by simp [recsLen], Nat.zero_le _, ⟨rfl, ⟨rfl, .inl ⟨rfl, rfl⟩⟩, fun i r R h1 => by simp at h1, List.Pairwise.nil⟩, HB1.out⟩
  case round =>
    obtain ⟨j, Rs, at0, rfl, rfl, hat0, hj, hrow, hB⟩ := hrel
    have HAT0 := hide hat0
    clear hat0
    by_cases hlt : j < k
    · obtain ⟨r, hr⟩ : ∃ r, rs[j]? = some r := ⟨_, List.getElem?_eq_getElem (by rw [HK.out]; exact hlt)⟩
      have hts : rs.take (j + 1) = rs.take j ++ [r] := by rw [List.take_add_one, hr]; rfl
      have hdr := RecsAt.drop rs (a + 64) j HRS.out
      rw [← HAT0.out, List.drop_eq_getElem_cons (by rw [HK.out]; exact hlt)] at hdr
      have er : rs[j]'(by rw [HK.out]; exact hlt) = r := by
        have h5 := List.getElem?_eq_getElem (l := rs) (i := j) (by rw [HK.out]; exact hlt)
        rw [h5] at hr
        exact Option.some.inj hr
      rw [er] at hdr
      obtain ⟨q1, q2, q3, q4, q5, _⟩ := hdr
      have krd := KRD.out wr hB at0 r q1 q2 q3 q4 q5
      obtain ⟨n, hn⟩ : ∃ n : Nat, k - j = n + 1 := ⟨k - j - 1, by omega⟩
      rw [hn]
      have nI : (0 : Int) < ((n + 1 : Nat) : Int) := by omega
      obtain ⟨m, hm⟩ : ∃ m, n + 1 = m := ⟨_, rfl⟩
      rw [hm] at nI ⊢
      have wmn : IntKind.u64.wrap ((m : Int) - 1) = (n : Int) := by rw [IntKind.wrap_u64]; omega
      obtain ⟨x, old⟩ := r
      simp only at krd q2 q3 q5
      have hlen := hrow.len
      obtain ⟨rl, hrl⟩ : ∃ rl, (recB x old).length = rl := ⟨_, rfl⟩
      obtain ⟨ln, hln⟩ : ∃ ln, old.length = ln := ⟨_, rfl⟩
      have hRC : ∀ R, recC (x, old) R = [.int .i64 (x : Int), .slice (some ⟨R, 24, none⟩) ln (rl - 24)] := fun R => by unfold recC; simp only; rw [hrl, hln]
      rw [hrl, hln] at krd
      rw [hrl] at q5
      have KRDx := hide krd
      have HROW := hide hrow
      have HB := hide hB
      have HTS := hide hts
      have HNM := hide (And.intro hn hm)
      have HRC := hide hRC
      have HRL := hide hrl
      have wma : IntKind.i64.wrap ((at0 : Int) + (rl : Int)) = ((at0 + rl : Nat) : Int) := by rw [IntKind.wrap_i64]; omega
      obtain ⟨at1, hat1⟩ : ∃ at1, at0 + rl = at1 := ⟨_, rfl⟩
      rw [hat1] at wma
      have HAT1 := hide hat1
      have hjl : (rs.take j).length = j := by rw [List.length_take, HK.out]; omega
      have HJL := hide hjl
      clear krd hrow hB hts q1 q4 hn hm hlen hRC hrl hat1 er hr hln hjl
      go_upto_region 11 with (go_at_call 36; refine (KRDx.out).mono ?_; rintro e W2 ⟨R, rfl, hRs, hRo, hRb⟩; have HRS2 := hide hRs; have HRO := hide hRo; have HRB := hide hRb; clear hRs hRo hRb)
      have hA1 : Below W2.heap.size W2 (W2.alloc (.cells #[.int .i64 (x : Int), .slice (some ⟨R, 24, none⟩) ln (rl - 24)] 63)) := (Below.refl _ W2).alloc (Nat.le_refl _) _
      have hnew := heap_alloc_new W2 (.cells #[.int .i64 (x : Int), .slice (some ⟨R, 24, none⟩) ln (rl - 24)] 63)
      have c0 : (W2.alloc (.cells #[.int .i64 (x : Int), .slice (some ⟨R, 24, none⟩) ln (rl - 24)] 63)).cell? ⟨W2.heap.size, 0, none⟩ = some (.int .i64 (x : Int)) := cell8 hnew 0
      have c1 : (W2.alloc (.cells #[.int .i64 (x : Int), .slice (some ⟨R, 24, none⟩) ln (rl - 24)] 63)).cell? ⟨W2.heap.size, 1, none⟩ = some (.slice (some ⟨R, 24, none⟩) ln (rl - 24)) := cell8 hnew 1
      have HB3 := hide (bseq HRB.out hA1)
      have HO3 := hide (HRO.out.below hA1 HRO.out.lt)
      have hRlt := HRO.out.lt
      generalize hXX : W2.alloc (.cells #[.int .i64 (x : Int), .slice (some ⟨R, 24, none⟩) ln (rl - 24)] 63) = X at *
      have hA2 : Below X.heap.size X (X.alloc (.cells #[.int .i64 (x : Int), .slice (some ⟨R, 24, none⟩) ln (rl - 24)] 63)) := (Below.refl _ X).alloc (Nat.le_refl _) _
      have hrow4 := (HROW.out.keep HB3.out).keep hA2
      have HB4 := hide (bseq (bseq HB.out HB3.out) hA2)
      have HO4 := hide (HO3.out.below hA2 HO3.out.lt)
      have HROW4 := hide hrow4
      have hsz : w.heap.size ≤ (X.alloc (.cells #[.int .i64 (x : Int), .slice (some ⟨R, 24, none⟩) ln (rl - 24)] 63)).heap.size := HB4.out.size
      have hrr := hrow4.row
      rw [HJL.out] at hrr
      have HRR := hide hrr
      have hlenR := hrow4.len
      rw [HJL.out] at hlenR
      clear hXX hA1 hnew hA2 hrow4 hrr
      go_wp2_with (at_builtin; refine wpList_append_own_at _ rfl _ _ 38 rfl w.heap.size 63 i0 (.agg #[.int .i64 0, .slice none 0 0]) 2 32 Try.underlying38 hi0 hz0 hz1 hz2 rfl (by decide) u6 j (((rs.take j).zip Rs).flatMap (fun p => recC p.1 p.2)) rfl HRR.out ⟨X.heap.size, 0, none⟩ 1 1 [.int .i64 (x : Int), .slice (some ⟨R, 24, none⟩) ln (rl - 24)] rfl rfl (cell_twoU X _ _ _) (by simp [Value.oneCell']) (by unfold maxLen; omega) (by omega) hsz ?_; intro v1 x1 ho3 hg3 hnn hat3; clear hnn hat3; have HO7 := hide ho3; have HG7 := hide hg3; clear ho3 hg3)
      go_roundw
      case rel =>
        have hB7 := bel_of_grownT HB4.out HRR.out HG7.out
        obtain ⟨hn, hm⟩ := HNM.out
        refine ⟨j + 1, Rs ++ [R], at1, int_congrP (by omega), rfl, ?_, by omega, ⟨?_, ?_, ?_, ?_⟩, hB7⟩
        · rw [HTS.out, recsLen_snoc, HRL.out, ← HAT1.out, HAT0.out]
          omega
        · rw [HTS.out, List.length_append, List.length_append, hlenR, HJL.out]
          rfl
        · have e1 : ((rs.take j ++ [(x, old)]).zip (Rs ++ [R])).flatMap (fun p => recC p.1 p.2) = ((rs.take j).zip Rs).flatMap (fun p => recC p.1 p.2) ++ [.int .i64 (x : Int), .slice (some ⟨R, 24, none⟩) ln (rl - 24)] := by
            rw [List.zip_append (by rw [hlenR, HJL.out]), List.flatMap_append, ← HRC.out R]
            simp
          rw [HTS.out, e1, List.length_append, HJL.out]
          exact HO7.out
        · intro i r' R' h1 h2
          rw [HTS.out] at h1
          have hg := HG7.out
          have notrow : ∀ (k' : Nat) (c' : Array Value), (X.alloc (.cells #[.int .i64 (x : Int), .slice (some ⟨R, 24, none⟩) ln (rl - 24)] 63)).heap[k']? = some (.cells c' 5 (0, 0)) → x1.heap[k']? = (X.alloc (.cells #[.int .i64 (x : Int), .slice (some ⟨R, 24, none⟩) ln (rl - 24)] 63)).heap[k']? := fun k' c' hk' => hg.block k' (lt_of_heap hk') (fun e => by
            obtain ⟨c2, hc2⟩ := own_type HRR.out e.symm
            exact ne_ty hk' hc2 (by decide) rfl)
          by_cases hi : i < j
          · rw [List.getElem?_append_left (by rw [HJL.out]; exact hi)] at h1
            rw [List.getElem?_append_left (by rw [hlenR]; exact hi)] at h2
            obtain ⟨o1, o2⟩ := HROW4.out.own i r' R' h1 h2
            exact ⟨o1.of_block (notrow R' _ o1), o2⟩
          · have hij : i = j := by
              have := (List.getElem?_eq_some_iff.1 h1).1
              rw [List.length_append, HJL.out] at this
              simp at this
              omega
            subst hij
            rw [List.getElem?_append_right (by rw [HJL.out]; exact Nat.le_refl _), HJL.out, Nat.sub_self] at h1
            rw [List.getElem?_append_right (by rw [hlenR]; exact Nat.le_refl _), hlenR, Nat.sub_self] at h2
            simp at h1 h2
            subst h1 h2
            exact ⟨HO4.out.of_block (notrow R _ HO4.out), Nat.le_trans HB.out.size HRS2.out⟩
        · rw [List.pairwise_append]
          refine ⟨HROW4.out.ne, List.pairwise_singleton _ _, fun p hp q hq => ?_⟩
          rw [List.mem_singleton.1 hq]
          obtain ⟨i, hi⟩ := List.getElem?_of_mem hp
          have hil : i < j := by have := (List.getElem?_eq_some_iff.1 hi).1; omega
          obtain ⟨r', hr'⟩ : ∃ r', (rs.take j)[i]? = some r' := ⟨_, List.getElem?_eq_getElem (by rw [HJL.out]; exact hil)⟩
          have := (HROW.out.own i r' p hr' hi).1.lt
          have := HRS2.out
          omega
      case measure => obtain ⟨hn, hm⟩ := HNM.out; simp [intOf]; omega
    · obtain rfl : j = k := by omega
      have hfull : rs.take j = rs := List.take_of_length_le (by rw [HK.out]; exact Nat.le_refl _)
      rw [hfull] at hrow
      have HROW := hide hrow
      have HB := hide hB
      rw [Nat.sub_self]
      clear hrow hB hfull
      go_wp2
      go_ret2
      exact ⟨_, Rs, rfl, HROW.out, HB.out⟩
end Go.Proofs.Ytadmekikdaocoaa
