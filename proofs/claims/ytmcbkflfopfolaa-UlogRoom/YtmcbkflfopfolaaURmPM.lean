/- UlogRoom answers true for all lists of lengths: a Write goes well just where its records have room; then they are told, and Clear takes them away. -/
import Derived.Test.YtmcbkflfopfolaaUgWM
import Derived.Test.YtmcbkflfopfolaaPArmM
import Derived.Deep.QuietTactic
import Derived.BigQuiet
import Derived.WalkSmall
import Derived.Test.YtmcbkflfopfolaaBase
import Derived.ProofKit
import Derived.ChangeOld
import Derived.ChangeMaps5
import Derived.SizedLaws
import Derived.JoinedCond
import Derived.ChangeSlices
import Derived.Deep.Slices
import Derived.Test.YtmcbkflfopfolaaUgEM
namespace Go.Proofs.Ytmcbkflfopfolaa
open Go.RowKit Go.Shelf
set_option linter.unusedVariables false
set_option maxRecDepth 100000

theorem neq_devN (a : Addr) (w : World) : (binOp .neq 31 (.pointer none) (.pointer (some a))).run Try.prog w = .ok (.bool true) w := by
  have h : ∀ d : Nat, (Op.equalIn (d + 1) 31 (.pointer none) (.pointer (some a))).run Try.prog w = .ok false w := fun d => by
    simp [Op.equalIn, run_underlying (show Try.prog.underlying 31 = some (.pointer 75) by kernel_rfl)]
  simp only [binOp]
  simp [Op.equal, Op.maxDepth, h 9999]
/-- What is no device: nil, or one that no call made. -/
def NoV (w : World) (v : Value) : Prop := v = .pointer none ∨ ∃ g c, v = .pointer (some ⟨g, 0, none⟩) ∧ w.heap[g]? = some (.cells c 75 (0, 0)) ∧ c[0]? = some (.pointer none)
theorem nv_none {w : World} {v : Value} (h : NoV w v) : Calls Try.prog 35 #[v] w fun e w' => e = .returned (.bool true) ∧ w' = w := by
  rcases h with rfl | ⟨g, c, rfl, hg, hc⟩
  · go_enter Try.func35, Try.ntmps35
    go_wp2
    go_ret
    exact ⟨rfl, rfl⟩
  · have c0 : w.cell? ⟨g, 0, none⟩ = some (.pointer none) := (cell8 hg 0).trans hc
    have hq := neq_devN ⟨g, 0, none⟩ w
    clear hg hc
    go_enter Try.func35, Try.ntmps35
    go_wp2
    go_ret
    exact ⟨rfl, rfl⟩
theorem nv_size {w : World} {v : Value} (h : NoV w v) : Calls Try.prog 34 #[v] w fun e w' => e = .returned (.int .i64 0) ∧ w' = w := by
  have KN := hide (nv_none h)
  rcases h with rfl | ⟨g, c, rfl, hg, hc⟩ <;>
  · go_enter Try.func34, Try.ntmps34
    go_wp2_with (go_at_call 35; refine (KN.out).mono ?_; rintro e w' ⟨rfl, hw⟩; obtain rfl := hw.symm)
    go_ret
    exact ⟨rfl, rfl⟩
theorem nv_open {w : World} {v : Value} (h : NoV w v) (a z : Int) : Calls Try.prog 14 #[v, .int .i64 a, .int .i64 z] w fun e w' => e = .returned (.tuple #[.pointer none, .int .i64 1]) ∧ w' = w := by
  have KN := hide (nv_size h)
  rcases h with rfl | ⟨g, c, rfl, hg, hc⟩ <;>
  · go_enter Try.func14, Try.ntmps14
    go_wp2_with (go_at_call 34; refine (KN.out).mono ?_; rintro e w' ⟨rfl, hw⟩; obtain rfl := hw.symm)
    go_ret2
    exact ⟨rfl, rfl⟩
theorem aw_eq {W : World} {R : Nat} (h : OwnB W R [64, 65, 66, 67]) : Calls Try.prog 39 #[.slice (some ⟨R, 0, none⟩) 4 4, .slice (some ⟨W.heap.size, 0, none⟩) 4 4] (W.alloc (.cells #[.int .u8 64, .int .u8 65, .int .u8 66, .int .u8 67] 5)) fun e w' => e = .returned (.bool true) ∧ Below W.heap.size W w' := by
  have hA : Below W.heap.size W (W.alloc (.cells #[.int .u8 64, .int .u8 65, .int .u8 66, .int .u8 67] 5)) := (Below.refl _ W).alloc (Nat.le_refl _) _
  have h1 : OwnB (W.alloc (.cells #[.int .u8 64, .int .u8 65, .int .u8 66, .int .u8 67] 5)) R [64, 65, 66, 67] := h.below hA h.lt
  have h2 : OwnB (W.alloc (.cells #[.int .u8 64, .int .u8 65, .int .u8 66, .int .u8 67] 5)) W.heap.size [64, 65, 66, 67] := heap_alloc_new _ _
  refine (eqBytes_any (some ⟨R, 0, none⟩) (some ⟨W.heap.size, 0, none⟩) 4 4 [64, 65, 66, 67] [64, 65, 66, 67] _ (h1.sl (by decide)) (h2.sl (by decide)) (by decide)).mono ?_
  rintro e w' ⟨rfl, n, rfl⟩
  exact ⟨rfl, below_drewN hA n⟩
set_option maxHeartbeats 2000000 in
theorem uawake_any (w : World) : Calls Try.prog 17 #[] w fun e w' => e = .returned (.bool true) ∧ Below w.heap.size w w' := by
  have KM := hide (umade_any 192 w (by omega) (by omega) (by omega))
  have M1 := hide trivial
  have M2 := hide trivial
  go_enter Try.func17, Try.ntmps17
  go_wp2_with (first
    | (go_at_call 18; refine (KM.out).mono ?_; rintro e W1 ⟨b, L, gl, rfl, hd, hN, hf, hl, hB⟩; obtain ⟨σ, hlg, hn, ho, hby⟩ := lg_made hd hN hf hl hB; have HL := hide hlg; have HP := hide (And.intro hn (And.intro ho hby)); have HB := hide hB; clear hd hN hf hl hlg hn ho hby hB)
    | (go_at_call 19; clear M1; refine (aw_write HL.out HP.out.1 HP.out.2.1 HP.out.2.2).mono ?_; rintro e W2 ⟨rfl, L1, s1, hl1, g1, g2, g3, g4, hk1⟩; have HL1 := hide hl1; have HP1 := hide (And.intro g1 (And.intro g2 (And.intro g3 g4))); have HK1 := hide hk1; clear hl1 g1 g2 g3 g4 hk1)
    | (go_at_call 19; refine (lwrite_state (HL1.out).log (HL1.out).dv (by omega) (by rw [HP1.out.1]; omega) (by rw [HP1.out.2.2.1]; omega)).mono ?_; rintro e W3 ⟨rfl, hb3⟩; have HL2 := hide (HL1.out.below hb3); have HK2 := hide (HK1.out.trans (Kp8.of_below hb3 HL1.out.big)); clear hb3)
    | (go_at_call 36; refine (aw_store HL2.out HP1.out.1 HP1.out.2.1 HP1.out.2.2.1 HP1.out.2.2.2).mono ?_; rintro e W4 ⟨rfl, L3, s3, hl3, g1, g2, g3, g4, hk3⟩; have HL3 := hide hl3; have HP3 := hide (And.intro g1 (And.intro g2 (And.intro g3 g4))); have HK3 := hide (HK2.out.trans hk3); clear hl3 g1 g2 g3 g4 hk3)
    | (go_at_call 20; refine (aw_records HL3.out HP3.out.1 HP3.out.2.2.1 HP3.out.2.2.2).mono ?_; rintro e W5 ⟨gr, cap, cur, rfl, hgr, hcur, hb5⟩; have HL4 := hide (HL3.out.below hb5); have HK4 := hide (HK3.out.trans (Kp8.of_below hb5 HL3.out.big)); have HR := hide hgr; have HC := hide hcur; clear hb5 hgr hcur)
    | (go_at_call 37; clear M2; refine (aw_rollback HL4.out HP3.out.1 HP3.out.2.1 HP3.out.2.2.1 HP3.out.2.2.2).mono ?_; rintro e W6 ⟨rfl, L5, s5, hl5, g1, g2, g3, g4, hk5⟩; have HL5 := hide hl5; have HP5 := hide (And.intro g1 (And.intro g2 (And.intro g3 g4))); have HK5 := hide (HK4.out.trans hk5); have HR5 := hide (hk5.keep _ _ _ _ HR.out rec_nd); clear hl5 g1 g2 g3 g4 hk5)
    | (go_at_call 38; refine (dv_load (at_ := 64) (n := 4) (HL5.out).dv (by rw [HP5.out.1]; omega)).mono ?_; rintro e W7 ⟨R, rfl, hR, hO, hb7⟩; rw [HP5.out.2.2.2] at hO; have HL6 := hide (HL5.out.below hb7); have HK6 := hide (HK5.out.trans (Kp8.of_below hb7 HL5.out.big)); have HR6 := hide ((hb7.block _ (lt_of_heap HR5.out)).trans HR5.out); have HO := hide hO; clear hb7 hR hO)
    | (go_at_call 37; refine (lrollback_none (HL6.out).log (HL6.out).dv (by omega) (by omega) (by rw [HP5.out.1]; omega) HP5.out.2.2.1).mono ?_; rintro e W8 ⟨rfl, hb8⟩; have HK7 := hide (HK6.out.trans (Kp8.of_below hb8 HL6.out.big)); have HO7 := hide (HO.out.below hb8 HO.out.lt); have cc := (cell8 ((hb8.block _ (lt_of_heap HR6.out)).trans HR6.out) 0).trans HC.out; clear hb8)
    | (go_at_call 39; refine (aw_eq HO7.out).mono ?_; rintro e W9 ⟨rfl, hb9⟩; have HB9 := hide hb9; clear hb9))
  go_ret
  exact ⟨rfl, bseq (HB.out.trans HK7.out.below) HB9.out⟩
end Go.Proofs.Ytmcbkflfopfolaa
namespace Go.Proofs.Ytmcbkflfopfolaa
open Go.RowKit Go.Shelf
set_option linter.unusedVariables false
set_option maxRecDepth 100000

theorem uwithin_any (w : World) (i n : Int) (hn : 0 < n) (hn' : n ≤ 4611686018427387904) (hi : -9223372036854775808 ≤ i) (hi' : i ≤ 9223372036854775807) : Calls Try.prog 11 #[.int .i64 i, .int .i64 n] w fun e w' => e = .returned (.int .i64 (i % n)) ∧ w' = w := by
  obtain ⟨h1, h2, h3⟩ := within_eq i n hn
  have hn0 : ¬ n = 0 := by omega
  obtain ⟨t, ht⟩ : ∃ t, i.tmod n = t := ⟨_, rfl⟩
  rw [ht] at h1 h2 h3
  by_cases h : t < 0
  · rw [if_pos h] at h1
    rw [← h1]
    clear h1
    go_enter Try.func11, Try.ntmps11
    go_wp2
    go_ret
    exact ⟨rfl, rfl⟩
  · rw [if_neg h] at h1
    rw [← h1]
    clear h1
    go_enter Try.func11, Try.ntmps11
    go_wp2
    go_ret
    exact ⟨rfl, rfl⟩
/-- The lengths. -/
def zsR (ls : List Int) (i : Nat) : List Int := (ls.take i).map (fun x => 1 + x % 90)
theorem zsR_succ {ls : List Int} {i : Nat} {x : Int} (h : ls[i]? = some x) : zsR ls (i + 1) = zsR ls i ++ [1 + x % 90] := by
  unfold zsR
  rw [List.take_add_one, h]
  simp
theorem zsR_mem {ls : List Int} {i : Nat} : ∀ z ∈ zsR ls i, 1 ≤ z ∧ z ≤ 90 := by
  intro z hz
  unfold zsR at hz
  obtain ⟨x, _, rfl⟩ := List.mem_map.1 hz
  omega
theorem zsR_len {ls : List Int} {i : Nat} (h : i ≤ ls.length) : (zsR ls i).length = i := by
  unfold zsR
  rw [List.length_map, List.length_take]
  omega
/-- The extents. -/
def exU (zs : List Int) : List (Int × Int) := zs.map (fun z => (600, z))
theorem exU_len (zs : List Int) : (exU zs).length = zs.length := by simp [exU]
theorem needV_good : ∀ (zs : List Int) (s : Int), (∀ l ∈ zs, 1 ≤ l ∧ l ≤ 90) → 0 ≤ s → s + 200 * (zs.length : Int) ≤ 1000000000 → (needV s zs).2 = 0
  | [], s, _, _, _ => rfl
  | l :: t, s, h, h0, hs => by
    obtain ⟨h1, h2⟩ := h l (by simp)
    have hr := roundV_pad h1 (by omega)
    have hp : padN l.toNat < 8 := by unfold padN; omega
    rw [List.length_cons] at hs
    unfold needV
    rw [hr, if_neg (by
      rintro (h | h | h)
      · omega
      · exact h rfl
      · simp only at h; omega)]
    exact needV_good t _ (fun y hy => h y (by simp [hy])) (by simp only; omega) (by simp only; omega)
theorem sum_ge : ∀ (zs : List Int), (∀ l ∈ zs, 1 ≤ l ∧ l ≤ 90) → 32 * zs.length ≤ (zs.map (fun l => rlen l.toNat)).sum ∧ (zs.map (fun l => rlen l.toNat)).sum ≤ 200 * zs.length
  | [], _ => by simp
  | l :: t, h => by
    have h1 := sum_ge t (fun y hy => h y (by simp [hy]))
    obtain ⟨h2, h3⟩ := h l (by simp)
    have h4 : 32 ≤ rlen l.toNat ∧ rlen l.toNat ≤ 200 := by unfold rlen padN; omega
    rw [List.map_cons, List.sum_cons, List.length_cons]
    omega
theorem need_room {zs : List Int} (hz : ∀ l ∈ zs, 1 ≤ l ∧ l ≤ 90) (hl : zs.length ≤ 40) : (needV 0 zs).2 = 0 ∧ ((32 * zs.length : Nat) : Int) ≤ (needV 0 zs).1 ∧ (needV 0 zs).1 ≤ 8000 := by
  have h1 := needV_good zs 0 hz (by omega) (by omega)
  have h2 := needV_sum zs 0 h1 (fun l hl => by have := hz l hl; omega)
  have h3 := sum_ge zs hz
  refine ⟨h1, ?_, ?_⟩ <;> rw [h2] <;> omega
theorem needX_room {zs : List Int} (hz : ∀ l ∈ zs, 1 ≤ l ∧ l ≤ 90) (hl : zs.length ≤ 40) : needX 128 384 16 (exU zs) = if 320 < (needV 0 zs).1 then (0, 111) else ((needV 0 zs).1, 0) := by
  have h1 := (need_room hz hl).1
  have h2 : allMay 128 384 16 (exU zs) = true := by
    unfold allMay
    refine List.all_eq_true.2 fun x hx => ?_
    unfold exU at hx
    obtain ⟨l, hl, rfl⟩ := List.mem_map.1 hx
    have := hz l hl
    refine may_of_fine (x := (600, l)) ⟨by simp only; omega, by simp only; omega, by simp only; omega, .inr (by simp only; omega)⟩
  have h3 : (exU zs).map Prod.snd = zs := by simp [exU, Function.comp_def]
  unfold needX
  rw [if_pos h2, h3]
  by_cases h : 320 < (needV 0 zs).1
  · rw [if_pos h, if_pos (.inr (by omega))]
  · rw [if_neg h, if_neg (by
      rintro (h4 | h4)
      · exact h4 h1
      · omega)]
section
variable {B0 gl b : Nat} {W : World} {L : Lay} {σ : St}
theorem rm_write {ea : Option Addr} {zs : List Int} {m cap : Nat} (h : Lg B0 W gl b 128 384 L σ) (hn : σ.n = 16) (ho : σ.ops = 0) (hb : σ.bytes = imgZ 8) (hz : ∀ l ∈ zs, 1 ≤ l ∧ l ≤ 90) (he : SlE W ea (exU zs)) (hm : zs.length = m) (hml : m ≤ 40) :
    Calls Try.prog 19 #[.pointer (some ⟨gl, 0, none⟩), .slice ea m cap] W fun e w' => ∃ c rs L' s, e = .returned (.int .i64 c) ∧ Lg B0 w' gl b 128 384 L' s ∧ s.n = 16 ∧ s.ops ≤ 6000000 ∧ leV ((s.bytes.drop 128).take 8) = rs.length ∧ RecsAt 128 384 16 s.bytes 192 rs ∧ (320 < (needV 0 zs).1 → c = 111 ∧ rs = [] ∧ s.ops = 0) ∧ (¬ 320 < (needV 0 zs).1 → c = 0 ∧ rs = recL (imgZ 8) (exU zs)) ∧ Kp8 B0 W w' ∧ Stp W b L σ w' L' s := by
  have hnx := needX_room hz (by omega)
  have hnr := need_room hz (by omega)
  have hnum : leV ((σ.bytes.drop 128).take 8) = 0 := by rw [hb]; exact imgZ_num
  have hsame : ∀ w', Below W.heap.size W w' → Lg B0 w' gl b 128 384 L σ ∧ Kp8 B0 W w' ∧ Stp W b L σ w' L σ := fun w' hB => ⟨h.below hB, Kp8.of_below hB h.big, ⟨Gr.of_below hB, fun k hk => .inl hk⟩⟩
  by_cases hc : 320 < (needV 0 zs).1
  · rw [if_pos hc] at hnx
    refine (lwrite_none (cap := cap) h.log h.dv (by omega) (by omega) (by rw [hn]; omega) hnum he ((exU_len zs).trans hm) (by omega) (by rw [hn, hnx]; exact .inl (by decide))).mono ?_
    rintro e w' ⟨rfl, hB⟩
    obtain ⟨a1, a2, a3⟩ := hsame w' hB
    refine ⟨111, [], L, σ, by rw [hn, hnx], a1, hn, by omega, hnum, trivial, fun _ => ⟨rfl, rfl, ho⟩, fun h => absurd hc h, a2, a3⟩
  · rw [if_neg hc] at hnx
    by_cases h0 : zs = []
    · subst h0
      refine (lwrite_none (cap := cap) h.log h.dv (by omega) (by omega) (by rw [hn]; omega) hnum he ((exU_len []).trans hm) (by omega) (by rw [hn, hnx]; exact .inr rfl)).mono ?_
      rintro e w' ⟨rfl, hB⟩
      obtain ⟨a1, a2, a3⟩ := hsame w' hB
      exact ⟨0, [], L, σ, by rw [hn, hnx], a1, hn, by omega, hnum, trivial, fun h => absurd h hc, fun _ => ⟨rfl, rfl⟩, a2, a3⟩
    · have hm1 : 1 ≤ m := by
        cases zs with
        | nil => exact absurd rfl h0
        | cons x t => simp at hm; omega
      refine (lg_write (cap := cap) h (by rw [hn]; exact ⟨by omega, by omega, by omega, by omega⟩) (by omega) hnum he ((exU_len zs).trans hm) hm1 (by omega) (by rw [hn, hnx])).mono ?_
      rintro e w' ⟨rfl, L', s, hL, hW, hK, hS⟩
      have h1 := hW.like.n
      have h2 := hW.like.ops
      have h3 := hW.few
      have h4 := hW.num
      have h5 := hW.recs
      rw [hn, hb] at h5
      refine ⟨0, recL (imgZ 8) (exU zs), L', s, rfl, hL, by omega, by omega, by rw [recL_len]; exact h4, h5, fun h => absurd h hc, fun _ => ⟨rfl, rfl⟩, hK, hS⟩
end
theorem infoExt : ∃ i, Try.prog.info? 50 = some i ∧ i.zero = some (.agg #[.int .i64 0, .int .i64 0]) ∧ i.size = 2 ∧ i.bytes = 16 := by
  have h : (Try.prog.info? 50).map (fun i => (i.zero, i.size, i.bytes)) = some (some (.agg #[.int .i64 0, .int .i64 0]), 2, 16) := by kernel_rfl
  cases hq : Try.prog.info? 50 with
  | none => rw [hq] at h; cases h
  | some i => rw [hq] at h; simp at h; exact ⟨i, rfl, h.1, h.2.1, h.2.2⟩
theorem infoNum : ∃ i, Try.prog.info? 3 = some i ∧ i.zero = some (.int .i64 0) ∧ i.size = 1 ∧ i.bytes = 8 := by
  have h : (Try.prog.info? 3).map (fun i => (i.zero, i.size, i.bytes)) = some (some (.int .i64 0), 1, 8) := by kernel_rfl
  cases hq : Try.prog.info? 3 with
  | none => rw [hq] at h; cases h
  | some i => rw [hq] at h; simp at h; exact ⟨i, rfl, h.1, h.2.1, h.2.2⟩
/-- The cells of extents. -/
def exC (xs : List (Int × Int)) : List Value := xs.flatMap (fun x => [.int .i64 x.1, .int .i64 x.2])
theorem exC_snoc (xs : List (Int × Int)) (x : Int × Int) : exC (xs ++ [x]) = exC xs ++ [.int .i64 x.1, .int .i64 x.2] := by simp [exC]
theorem exC_get : ∀ (xs : List (Int × Int)) (i : Nat) (x l : Int), xs[i]? = some (x, l) → (exC xs)[i * 2]? = some (.int .i64 x) ∧ (exC xs)[i * 2 + 1]? = some (.int .i64 l)
  | [], i, x, l, h => by simp at h
  | y :: t, 0, x, l, h => by simp at h; subst h; exact ⟨rfl, rfl⟩
  | y :: t, i + 1, x, l, h => by
    have h1 := exC_get t i x l (by simpa using h)
    have e : exC (y :: t) = .int .i64 y.1 :: .int .i64 y.2 :: exC t := rfl
    rw [e, show (i + 1) * 2 = i * 2 + 1 + 1 by omega]
    exact h1
theorem sle_of_row {W : World} {base n cap : Nat} {v : Value} {xs : List (Int × Int)} (h : W.ownsRow base 50 2 v n (exC xs)) (hn : xs.length = n) (hb : ∀ x ∈ xs, (-9223372036854775808 ≤ x.1 ∧ x.1 ≤ 9223372036854775807) ∧ (-9223372036854775808 ≤ x.2 ∧ x.2 ≤ 9223372036854775807)) : ∃ a c, v = .slice a n c ∧ SlE W a xs := by
  rcases h.2 with ⟨rfl, rfl⟩ | ⟨g, cp, cur, rfl, h1, h2, h3, h4, h5, h6⟩
  · exact ⟨none, 0, rfl, hb, .inl (List.length_eq_zero_iff.1 hn)⟩
  · refine ⟨some ⟨g, 0, none⟩, cp, rfl, hb, .inr ⟨g, 0, cur, rfl, h2, fun i x l hi => ?_⟩⟩
    obtain ⟨e1, e2⟩ := exC_get xs i x l hi
    have hil : i < xs.length := (List.getElem?_eq_some_iff.1 hi).1
    rw [← h6, List.getElem?_take, if_pos (by omega), Array.getElem?_toList] at e1 e2
    rw [Nat.zero_add]
    exact ⟨e1, e2⟩
theorem slz_of_row {W : World} {base n : Nat} {v : Value} {zs : List Int} (h : W.ownsRow base 3 1 v n (zs.map (fun z => .int .i64 z))) (hn : zs.length = n) (hb : ∀ z ∈ zs, -9223372036854775808 ≤ z ∧ z ≤ 9223372036854775807) : ∃ a c, v = .slice a n c ∧ SlZ W a zs := by
  rcases h.2 with ⟨rfl, rfl⟩ | ⟨g, cp, cur, rfl, h1, h2, h3, h4, h5, h6⟩
  · exact ⟨none, 0, rfl, hb, .inl (List.length_eq_zero_iff.1 hn)⟩
  · refine ⟨some ⟨g, 0, none⟩, cp, rfl, hb, .inr ⟨g, 0, rfl, lt_of_heap h2, fun i z hi => ?_⟩⟩
    have hil : i < zs.length := (List.getElem?_eq_some_iff.1 hi).1
    have e1 : (zs.map (fun z => Value.int .i64 z))[i]? = some (.int .i64 z) := by rw [List.getElem?_map, hi]; rfl
    rw [← h6, List.getElem?_take, if_pos (by omega), Array.getElem?_toList] at e1
    rw [Nat.zero_add]
    exact (cell8 h2 i).trans e1
end Go.Proofs.Ytmcbkflfopfolaa
namespace Go.Proofs.Ytmcbkflfopfolaa
open Go.RowKit Go.Shelf
set_option linter.unusedVariables false
set_option maxRecDepth 100000

theorem own_other {W W' : World} {base n n' s s' : Nat} {t t' : TypeId} {v v' : Value} {xs xs' : List Value} (h : W.ownsRow base t s v n xs) (h' : W.ownsRow base t' s' v' n' xs') (ht : t ≠ t') (hg : W.grownBy W' v'.ownBlock) : W'.ownsRow base t s v n xs := by
  refine ownsRow_of_block h (fun g hgb => ?_)
  obtain ⟨c, hc⟩ := own_type h hgb
  refine hg.block g (lt_of_heap hc) (fun e => ?_)
  obtain ⟨c', hc'⟩ := own_type h' e.symm
  exact ne_ty hc hc' ht rfl
theorem own_below {W W' : World} {base n s : Nat} {t : TypeId} {v : Value} {xs : List Value} (h : W.ownsRow base t s v n xs) (hB : Below W.heap.size W W') : W'.ownsRow base t s v n xs :=
  ownsRow_of_block h (fun g hg => by obtain ⟨c, hc⟩ := own_type h hg; exact hB.block g (lt_of_heap hc))
theorem index_numU (g o i len cap : Nat) (hi : i < len) (w : World) : (Instr.indexAt 22 (.slice (some ⟨g, o, none⟩) len cap) (.int .i64 (i : Int))).run Try.prog w = .ok (.pointer (some ⟨g, o + i, none⟩)) w := by
  have h := index_at (t := 22) (e := 3) (sz := 1) Try.underlying22 (by kernel_rfl) g o i len cap hi w
  rwa [Nat.mul_one] at h
theorem index_recU (g i len cap : Nat) (hi : i < len) (w : World) : (Instr.indexAt 52 (.slice (some ⟨g, 0, none⟩) len cap) (.int .i64 (i : Int))).run Try.prog w = .ok (.pointer (some ⟨g, i * 2, none⟩)) w := by
  have h := index_at (t := 52) (e := 57) (sz := 2) Try.underlying52 (by kernel_rfl) g 0 i len cap hi w
  rwa [Nat.zero_add] at h
/-- A row of records as a slice, none among them. -/
theorem RowC.shape {w : World} {base : Nat} {v : Value} {rs : List (Nat × List Nat)} {Rs : List Nat} (h : RowC w base v rs Rs) : ∃ a cap, v = .slice a rs.length cap ∧ ∀ (i : Nat) (r : Nat × List Nat), rs[i]? = some r → ∃ gr cur R, a = some ⟨gr, 0, none⟩ ∧ w.heap[gr]? = some (.cells cur 57 (0, 0)) ∧ cur[i * 2]? = some (.int .i64 (r.1 : Int)) ∧ cur[i * 2 + 1]? = some (.slice (some ⟨R, 24, none⟩) r.2.length ((recB r.1 r.2).length - 24)) := by
  by_cases h0 : rs = []
  · subst h0
    obtain ⟨a, cap, rfl⟩ := h.nil
    exact ⟨a, cap, rfl, fun i r hr => by simp at hr⟩
  · obtain ⟨gr, cap, cur, rfl, hg, _, hc⟩ := h.slice (by cases rs with | nil => exact absurd rfl h0 | cons x t => simp)
    refine ⟨some ⟨gr, 0, none⟩, cap, rfl, fun i r hr => ?_⟩
    have hi : i < rs.length := (List.getElem?_eq_some_iff.1 hr).1
    have hR : i < Rs.length := by rw [h.len]; exact hi
    obtain ⟨h1, h2⟩ := hc i (r, Rs[i]) (by rw [List.getElem?_zip_eq_some]; exact ⟨hr, List.getElem?_eq_getElem hR⟩)
    exact ⟨gr, cur, Rs[i], rfl, hg, h1, h2⟩
/-- What stands in the records of extents at 600. -/
theorem recR_get {zs : List Int} {i : Nat} {z : Int} (hz : ∀ l ∈ zs, 1 ≤ l ∧ l ≤ 90) (h : zs[i]? = some z) : ∃ old, (recL (imgZ 8) (exU zs))[i]? = some (600, old) ∧ ((old.length : Nat) : Int) = z := by
  have hm := hz z (List.mem_of_getElem? h)
  refine ⟨oldOf (imgZ 8) (600, z), ?_, ?_⟩
  · unfold recL exU
    rw [List.map_map, List.getElem?_map, h]
    rfl
  · have hf : Fine 128 384 16 (600, z) := ⟨by simp only; omega, by simp only; omega, by simp only; omega, .inr (by simp only; omega)⟩
    rw [fine_old hf (by rw [imgZ_len])]
    simp only
    omega
set_option maxHeartbeats 4000000 in
theorem ulogRoom_walk (w : World) (a : Option Addr) (n cap : Nat) (ls : List Int) (h : SlZ w a ls) (hn : ls.length = n) : Calls Try.prog 4 #[.slice a n cap] w fun e w' => e = .returned (.bool true) ∧ Below w.heap.size w w' := by
  obtain ⟨i0, hi0, hz0, hz1, hz2⟩ := infoExt
  obtain ⟨i1, hj0, hj1, hj2, hj3⟩ := infoNum
  have HLS := hide h
  have HNL := hide hn
  clear h hn
  go_enter Try.func4, Try.ntmps4
  go_wp2_with (first
    | (go_at_call 17; refine (uawake_any _).mono ?_; rintro e W0 ⟨rfl, hb⟩; have HB0 := hide hb; have KM := hide (umade_any 384 W0 (by omega) (by omega) (by omega)); clear hb)
    | (go_at_call 18; refine (KM.out).mono ?_; rintro e W1 ⟨b, L, gl, rfl, hd, hN, hf, hl, hB⟩; obtain ⟨σ, hlg, hn, ho, hby⟩ := lg_made hd hN hf hl hB; have HL := hide hlg; have HP := hide (And.intro hn (And.intro ho hby)); have HB := hide hB; clear hd hN hf hl hlg hn ho hby hB))
  clear KM
  go_loopw [6, 7, 8] (fun lv sv iv wr => ∃ i : Nat, iv = .int .i64 (i : Int) ∧ i ≤ n ∧ i ≤ 40 ∧ wr.ownsRow W1.heap.size 50 2 lv i (exC (exU (zsR ls i))) ∧ wr.ownsRow W1.heap.size 3 1 sv i ((zsR ls i).map (fun z => .int .i64 z)) ∧ Below W1.heap.size W1 wr) (fun _ _ iv _ => (40 - (intOf iv).toNat))
  case atStart => exact ⟨0, rfl, Nat.zero_le _, Nat.zero_le _, ⟨rfl, .inl ⟨rfl, rfl⟩⟩, ⟨rfl, .inl ⟨rfl, rfl⟩⟩, Below.refl _ _⟩
  case round =>
    obtain ⟨i, rfl, hin, hi40, hr1, hr2, hB⟩ := hrel
    by_cases hlt : i < n
    · have iI : (i : Int) < (n : Int) := by omega
      by_cases hlt4 : i < 40
      · have iI4 : (i : Int) < 40 := by omega
        obtain ⟨x, hx⟩ : ∃ x, ls[i]? = some x := ⟨_, List.getElem?_eq_getElem (by rw [HNL.out]; exact hlt)⟩
        have hxb := HLS.out.1 x (List.mem_of_getElem? hx)
        obtain ⟨g, o, rfl, hg, hc⟩ : ∃ g o, a = some ⟨g, o, none⟩ ∧ g < w.heap.size ∧ ∀ (i : Nat) (z : Int), ls[i]? = some z → w.cell? ⟨g, o + i, none⟩ = some (.int .i64 z) := by
          rcases HLS.out.2 with e | e
          · rw [e] at hx; simp at hx
          · exact e
        have hBw : Below w.heap.size w wr := bseq (bseq HB0.out HB.out) hB
        have cq : wr.cell? ⟨g, o + i, none⟩ = some (.int .i64 x) := (hBw.cell (p := ⟨g, o + i, none⟩) hg).trans (hc i x hx)
        have ib := index_numU g o i n cap hlt wr
        have KW := hide (uwithin_any wr x 90 (by omega) (by omega) hxb.1 hxb.2)
        have hzx : 1 ≤ 1 + x % 90 ∧ 1 + x % 90 ≤ 90 := by omega
        have hwx : IntKind.i64.wrap (1 + x % 90) = 1 + x % 90 := by rw [IntKind.wrap_i64]; omega
        have hzs := zsR_succ hx
        obtain ⟨zv, hzv⟩ : ∃ zv, 1 + x % 90 = zv := ⟨_, rfl⟩
        obtain ⟨xv, hxv⟩ : ∃ xv, x % 90 = xv := ⟨_, rfl⟩
        rw [hxv] at KW hwx hzv
        rw [hzv] at hwx
        rw [hxv, hzv] at hzs
        have HZS := hide hzs
        have HR1 := hide hr1
        have HR2 := hide hr2
        have HBW := hide hB
        clear hzs hr1 hr2 hB hBw hc hzx hxv
        have M1 := hide trivial
        go_wp2_with (first
          | (go_at_call 11; refine (KW.out).mono ?_; rintro e w' ⟨rfl, hw⟩; obtain rfl := hw.symm
             have hA1 : Below wr.heap.size wr (wr.alloc (.cells #[.int .i64 600, .int .i64 zv] 50)) := (Below.refl _ wr).alloc (Nat.le_refl _) _
             have HO1 := hide (own_below HR1.out hA1)
             have HO2 := hide (own_below HR2.out hA1)
             have HB1 := hide (bseq HBW.out hA1)
             have hsz1 : W1.heap.size ≤ (wr.alloc (.cells #[.int .i64 600, .int .i64 zv] 50)).heap.size := HB1.out.size
             clear hA1)
          | (clear M1; at_builtin; refine wpList_append_own_at _ rfl _ _ 48 rfl W1.heap.size 50 i0 (.agg #[.int .i64 0, .int .i64 0]) 2 16 Try.underlying48 hi0 hz0 hz1 hz2 rfl (by decide) u6 i (exC (exU (zsR ls i))) rfl HO1.out ⟨wr.heap.size, 0, none⟩ 1 1 [.int .i64 600, .int .i64 zv] rfl rfl (cell_twoU wr _ _ _) (by simp [Value.oneCell']) (by unfold maxLen; omega) (by omega) hsz1 ?_
             intro v1 x1 ho3 hg3 hnn hat; clear hnn hat
             have HO3 := hide ho3
             have HS3 := hide (own_other HO2.out HO1.out (by decide) hg3)
             have HB3 := hide (bel_of_grownT HB1.out HO1.out hg3)
             have hA2 : Below x1.heap.size x1 (x1.alloc (.cells #[.int .i64 zv] 3)) := (Below.refl _ x1).alloc (Nat.le_refl _) _
             have HO4 := hide (own_below HO3.out hA2)
             have HS4 := hide (own_below HS3.out hA2)
             have HB4 := hide (bseq HB3.out hA2)
             have hsz4 : W1.heap.size ≤ (x1.alloc (.cells #[.int .i64 zv] 3)).heap.size := HB4.out.size
             clear hA2 ho3 hg3)
          | (at_builtin; refine wpList_append_own_at _ rfl _ _ 22 rfl W1.heap.size 3 i1 (.int .i64 0) 1 8 Try.underlying22 hj0 hj1 hj2 hj3 rfl (by decide) u7 i ((zsR ls i).map (fun z => .int .i64 z)) rfl HS4.out ⟨x1.heap.size, 0, none⟩ 1 1 [.int .i64 zv] rfl rfl (cell_oneU x1 _ _) (by simp [Value.oneCell']) (by unfold maxLen; omega) (by omega) hsz4 ?_
             intro v2 x2 ho5 hg5 hnn hat; clear hnn hat
             have HS5 := hide ho5
             have HO5 := hide (own_other HO4.out HS4.out (by decide) hg5)
             have HB5 := hide (bel_of_grownT HB4.out HS4.out hg5)
             clear ho5 hg5))
        first | go_roundw | skip
        all_goals first
          | exact ⟨⟨i + 1, int_congrP (by omega), by omega, by omega, by rw [HZS.out]; unfold exU; rw [List.map_append, List.map_singleton, exC_snoc]; exact HO5.out, by rw [HZS.out, List.map_append]; exact HS5.out, HB5.out⟩, by simp [intOf]; omega⟩
          | exact ⟨i + 1, int_congrP (by omega), by omega, by omega, by rw [HZS.out]; unfold exU; rw [List.map_append, List.map_singleton, exC_snoc]; exact HO5.out, by rw [HZS.out, List.map_append]; exact HS5.out, HB5.out⟩
          | (simp [intOf]; omega)
      · have iI4 : ¬ (i : Int) < 40 := by omega
        have hzl := zsR_len (ls := ls) (i := i) (by rw [HNL.out]; exact hin)
        have hzm := zsR_mem (ls := ls) (i := i)
        generalize zsR ls i = zs at *
        obtain ⟨ea, ec, rfl, hse⟩ := sle_of_row (cap := 0) hr1 ((exU_len zs).trans hzl) (fun x hx => by unfold exU at hx; obtain ⟨l, hl, rfl⟩ := List.mem_map.1 hx; have := hzm l hl; exact ⟨by simp only; omega, by simp only; omega⟩)
        obtain ⟨za, zc, rfl, hsz⟩ := slz_of_row hr2 hzl (fun z hz => by have := hzm z hz; omega)
        have kn := need_any zc i hsz hzl (by omega)
        obtain ⟨nr1, nr2, nr3⟩ := need_room hzm (by omega)
        have hlg := HL.out.below hB
        have hst : ∀ k, Foot b L σ k → k < W1.heap.size := fun k hk => HL.out.dv.dev.foot_is hk
        have kw := rm_write (ea := ea) (m := i) (cap := ec) hlg HP.out.1 HP.out.2.1 HP.out.2.2 hzm hse hzl (by omega)
        have kops := pops_any hlg.dv.dev
        rw [HP.out.2.1] at kops
        have hold := hide (hr2.2)
        rw [nr1] at kn
        rw [hzl] at nr2
        obtain ⟨vd, hvd⟩ : ∃ vd, (needV 0 zs).1 = vd := ⟨_, rfl⟩
        rw [hvd] at kn kw nr2 nr3
        have hm32 : IntKind.i64.wrap (32 * (i : Int)) = 32 * (i : Int) := by rw [IntKind.wrap_i64]; omega
        have hv32 : ¬ vd < 32 * (i : Int) := by omega
        have KN := hide kn
        have KW := hide kw
        have KO := hide kops
        have HZ := hide hzm
        have HZL := hide hzl
        have HSZ := hide hsz
        have HBR := hide hB
        have HLG := hide hlg
        have HFT := hide hst
        clear kn kw kops hzm hzl hsz hB hlg hst hse hr1 hr2 hvd nr1 nr2 hin
        by_cases hbig : 320 < vd
        · have KOX := hide (fun (W : World) (L' : Lay) (s : St) (hl : Lg W0.heap.size W gl b 128 384 L' s) (h0 : s.ops = 0) => show Calls Try.prog 16 #[.pointer (some ⟨b, 0, none⟩)] W fun e w' => e = .returned (.int .i64 ((0 : Nat) : Int)) ∧ w' = W from (by have k := pops_any hl.dv.dev; rw [h0] at k; exact k))
          have M2 := hide trivial
          go_wp2_with (first
            | (go_at_call 8; refine (KN.out).mono ?_; rintro e w' ⟨rfl, hw⟩; obtain rfl := hw.symm)
            | (go_at_call 16; clear M2; refine (KO.out).mono ?_; rintro e w' ⟨rfl, hw⟩; obtain rfl := hw.symm)
            | (go_at_call 19; refine (KW.out).mono ?_; rintro e W2 ⟨c, rs, L2, s2, rfl, hl2, hn2, ho2, hu2, hr2, hA, _, hk2, _⟩; obtain ⟨rfl, rfl, ho3⟩ := hA hbig; have HL2 := hide hl2; have HK2 := hide hk2; have HP2 := hide (And.intro hn2 (And.intro hu2 ho3)); clear hl2 hn2 ho2 hu2 hr2 hA hk2 ho3)
            | (go_at_call 20; refine (lrecords_ok [] HL2.out.log HL2.out.dv (by omega) (by omega) (by rw [HP2.out.1]; omega) HP2.out.2.1 trivial (by decide)).mono ?_; rintro e W3 ⟨v, Rs, rfl, hrow, hb3⟩; obtain ⟨ra, rc, rfl⟩ := hrow.nil; have HB3 := hide hb3; have HL3 := hide (HL2.out.below hb3); clear hrow hb3)
            | (go_at_call 16; refine (KOX.out _ _ _ HL3.out HP2.out.2.2).mono ?_; rintro e w' ⟨rfl, hw⟩; obtain rfl := hw.symm))
          go_ret
          exact ⟨rfl, bseq (bseq HB0.out ((bseq HB.out HBR.out).trans HK2.out.below)) HB3.out⟩
        · exfalso; omega
    · have iI : ¬ (i : Int) < (n : Int) := by omega
      have hzl := zsR_len (ls := ls) (i := i) (by rw [HNL.out]; exact hin)
      have hzm := zsR_mem (ls := ls) (i := i)
      generalize zsR ls i = zs at *
      obtain ⟨ea, ec, rfl, hse⟩ := sle_of_row (cap := 0) hr1 ((exU_len zs).trans hzl) (fun x hx => by unfold exU at hx; obtain ⟨l, hl, rfl⟩ := List.mem_map.1 hx; have := hzm l hl; exact ⟨by simp only; omega, by simp only; omega⟩)
      obtain ⟨za, zc, rfl, hsz⟩ := slz_of_row hr2 hzl (fun z hz => by have := hzm z hz; omega)
      have kn := need_any zc i hsz hzl (by omega)
      obtain ⟨nr1, nr2, nr3⟩ := need_room hzm (by omega)
      have hlg := HL.out.below hB
      have hst : ∀ k, Foot b L σ k → k < W1.heap.size := fun k hk => HL.out.dv.dev.foot_is hk
      have kw := rm_write (ea := ea) (m := i) (cap := ec) hlg HP.out.1 HP.out.2.1 HP.out.2.2 hzm hse hzl (by omega)
      have kops := pops_any hlg.dv.dev
      rw [HP.out.2.1] at kops
      have hold := hide (hr2.2)
      rw [nr1] at kn
      rw [hzl] at nr2
      obtain ⟨vd, hvd⟩ : ∃ vd, (needV 0 zs).1 = vd := ⟨_, rfl⟩
      rw [hvd] at kn kw nr2 nr3
      have hm32 : IntKind.i64.wrap (32 * (i : Int)) = 32 * (i : Int) := by rw [IntKind.wrap_i64]; omega
      have hv32 : ¬ vd < 32 * (i : Int) := by omega
      have KN := hide kn
      have KW := hide kw
      have KO := hide kops
      have HZ := hide hzm
      have HZL := hide hzl
      have HSZ := hide hsz
      have HBR := hide hB
      have HLG := hide hlg
      have HFT := hide hst
      clear kn kw kops hzm hzl hsz hB hlg hst hse hr1 hr2 hvd nr1 nr2 hin
      by_cases hbig : 320 < vd
      · have KOX := hide (fun (W : World) (L' : Lay) (s : St) (hl : Lg W0.heap.size W gl b 128 384 L' s) (h0 : s.ops = 0) => show Calls Try.prog 16 #[.pointer (some ⟨b, 0, none⟩)] W fun e w' => e = .returned (.int .i64 ((0 : Nat) : Int)) ∧ w' = W from (by have k := pops_any hl.dv.dev; rw [h0] at k; exact k))
        have M2 := hide trivial
        go_wp2_with (first
          | (go_at_call 8; refine (KN.out).mono ?_; rintro e w' ⟨rfl, hw⟩; obtain rfl := hw.symm)
          | (go_at_call 16; clear M2; refine (KO.out).mono ?_; rintro e w' ⟨rfl, hw⟩; obtain rfl := hw.symm)
          | (go_at_call 19; refine (KW.out).mono ?_; rintro e W2 ⟨c, rs, L2, s2, rfl, hl2, hn2, ho2, hu2, hr2, hA, _, hk2, _⟩; obtain ⟨rfl, rfl, ho3⟩ := hA hbig; have HL2 := hide hl2; have HK2 := hide hk2; have HP2 := hide (And.intro hn2 (And.intro hu2 ho3)); clear hl2 hn2 ho2 hu2 hr2 hA hk2 ho3)
          | (go_at_call 20; refine (lrecords_ok [] HL2.out.log HL2.out.dv (by omega) (by omega) (by rw [HP2.out.1]; omega) HP2.out.2.1 trivial (by decide)).mono ?_; rintro e W3 ⟨v, Rs, rfl, hrow, hb3⟩; obtain ⟨ra, rc, rfl⟩ := hrow.nil; have HB3 := hide hb3; have HL3 := hide (HL2.out.below hb3); clear hrow hb3)
          | (go_at_call 16; refine (KOX.out _ _ _ HL3.out HP2.out.2.2).mono ?_; rintro e w' ⟨rfl, hw⟩; obtain rfl := hw.symm))
        go_ret
        exact ⟨rfl, bseq (bseq HB0.out ((bseq HB.out HBR.out).trans HK2.out.below)) HB3.out⟩
      · have M2 := hide trivial
        go_wp2_with (first
          | (go_at_call 8; refine (KN.out).mono ?_; rintro e w' ⟨rfl, hw⟩; obtain rfl := hw.symm)
          | (go_at_call 16; refine (KO.out).mono ?_; rintro e w' ⟨rfl, hw⟩; obtain rfl := hw.symm)
          | (go_at_call 19; refine (KW.out).mono ?_; rintro e W2 ⟨c, rs, L2, s2, rfl, hl2, hn2, ho2, hu2, hr2, _, hA, hk2, hs2⟩; obtain ⟨rfl, rfl⟩ := hA hbig; have HL2 := hide hl2; have HK2 := hide hk2; have HS2 := hide hs2; have HP2 := hide (And.intro hn2 (And.intro hu2 (And.intro ho2 hr2))); clear hl2 hn2 ho2 hu2 hr2 hA hk2 hs2)
          | (go_at_call 20; clear M2; refine (lrecords_ok (recL (imgZ 8) (exU zs)) HL2.out.log HL2.out.dv (by omega) (by omega) (by rw [HP2.out.1]; omega) HP2.out.2.1 (by rw [HP2.out.1]; exact HP2.out.2.2.2) (by rw [recL_len, exU_len, HZL.out]; omega)).mono ?_; rintro e W3 ⟨v, Rs, rfl, hrow, hb3⟩; obtain ⟨ra, rc, rfl, hcs⟩ := hrow.shape; rw [recL_len, exU_len, HZL.out]; have HB3 := hide hb3; have HL3 := hide (HL2.out.below hb3); have HCS := hide hcs; clear hrow hb3 hcs))
        have hszk : SlZ W3 za zs := by
          have hq := HSZ.out
          refine ⟨hq.1, hq.2.imp id ?_⟩
          rintro ⟨g, o, rfl, hg, hcc⟩
          have hbs : W1.heap.size ≤ g := by
            rcases hold.out with ⟨e, _⟩ | ⟨g', cp, cur, e, h1, _⟩
            · cases e
            · cases e; exact h1
          obtain ⟨e1, _⟩ := HS2.out.out hg (fun hf => by have := HFT.out _ hf; omega)
          have hg2 : g < W2.heap.size := Nat.lt_of_lt_of_le hg HK2.out.size
          refine ⟨g, o, rfl, Nat.lt_of_lt_of_le hg2 HB3.out.size, fun j z hz => ?_⟩
          rw [HB3.out.cell (p := ⟨g, o + j, none⟩) hg2, World.cell?_of_block (a := ⟨g, o + j, none⟩) e1]
          exact hcc j z hz
        have HSK := hide hszk
        clear hszk HSZ hold
        go_loopw [16] (fun iv wr => ∃ j : Nat, iv = .int .i64 (j : Int) ∧ j ≤ i ∧ Below W3.heap.size W3 wr) (fun iv _ => (i - (intOf iv).toNat))
        case atStart => exact ⟨0, rfl, Nat.zero_le _, Below.refl _ _⟩
        case round =>
          obtain ⟨j, rfl, hj, hBq⟩ := hrel
          by_cases hjl : j < i
          · have jI : (j : Int) < (i : Int) := by omega
            obtain ⟨z, hz⟩ : ∃ z, zs[j]? = some z := ⟨_, List.getElem?_eq_getElem (by rw [HZL.out]; exact hjl)⟩
            obtain ⟨old, hr, hol⟩ := recR_get HZ.out hz
            obtain ⟨gr, cur, R, rfl, hgr, hc0, hc1⟩ := HCS.out j _ hr
            obtain ⟨g, o, rfl, hg, hcc⟩ : ∃ g o, za = some ⟨g, o, none⟩ ∧ g < W3.heap.size ∧ ∀ (i : Nat) (z : Int), zs[i]? = some z → W3.cell? ⟨g, o + i, none⟩ = some (.int .i64 z) := by
              rcases HSK.out.2 with e | e
              · rw [e] at hz; simp at hz
              · exact e
            subst hol
            have c0 : wr.cell? ⟨gr, j * 2, none⟩ = some (.int .i64 600) := (cell8 ((hBq.block _ (lt_of_heap hgr)).trans hgr) (j * 2)).trans hc0
            have c1 : wr.cell? ⟨gr, j * 2 + 1, none⟩ = some (.slice (some ⟨R, 24, none⟩) old.length ((recB 600 old).length - 24)) := (cell8 ((hBq.block _ (lt_of_heap hgr)).trans hgr) (j * 2 + 1)).trans hc1
            have c2 : wr.cell? ⟨g, o + j, none⟩ = some (.int .i64 (old.length : Int)) := (hBq.cell (p := ⟨g, o + j, none⟩) hg).trans (hcc j _ hz)
            have x0 := index_recU gr j i rc hjl wr
            have x1 := index_numU g o j i zc hjl wr
            generalize (recB 600 old).length - 24 = q9 at *
            generalize old.length = l9 at *
            have HBQ := hide hBq
            clear hBq hgr hc0 hc1 hcc hr hz
            go_wp2_with (fail)
            go_quiet (fail)
            go_wp2_with (fail)
            go_roundw
            case rel => exact ⟨j + 1, int_congrP (by omega), by omega, below_drewN HBQ.out nq⟩
            case measure => simp [intOf]; omega
          · obtain rfl : j = i := by omega
            have jI : ¬ (j : Int) < (j : Int) := by omega
            have HL4 := hide (HL3.out.below hBq)
            have HBQ := hide (bseq HB3.out hBq)
            have hn4 : s2.n = 16 := HP2.out.1
            have ho4 : s2.ops ≤ 6000000 := HP2.out.2.2.1
            clear hBq
            go_wp2_with (first
              | (go_at_call 21; refine (lg_clear HL4.out (by rw [hn4]; exact ⟨by omega, by omega, by omega, by omega⟩) (by omega)).mono ?_; rintro e W4 ⟨rfl, L5, s5, hl5, hk5, hu5, hq5, _⟩; have HL5 := hide hl5; have HN5 := hide (And.intro (hk5.n.trans hn4) hu5); have HK5 := hide hq5; clear hl5 hk5 hu5 hq5)
              | (go_at_call 20; refine (lrecords_ok [] HL5.out.log HL5.out.dv (by omega) (by omega) (by rw [HN5.out.1]; omega) HN5.out.2 trivial (by decide)).mono ?_; rintro e W6 ⟨v, Rs, rfl, hrow, hb6⟩; obtain ⟨rb, rd, rfl⟩ := hrow.nil; have HB6 := hide hb6; clear hrow hb6))
            go_ret
            exact ⟨rfl, bseq (bseq HB0.out ((bseq (((bseq HB.out HBR.out).trans HK2.out.below)) HBQ.out).trans HK5.out.below)) HB6.out⟩
end Go.Proofs.Ytmcbkflfopfolaa
namespace Go.Proofs.Ytmcbkflfopfolaa
open Go.ChangeShapes Go.WideShapes Go.ChangeAt Go.RowKit
set_option linter.unusedVariables false

theorem own : ownKnob Try.prog.godebug = none := by kernel_rfl
theorem laidOut : laidOutB Try.prog = true := by kernel_rfl
theorem size_of_sized {s : ByteArray} (h : s.data.toList.length ≤ reachBytes) : s.size ≤ 140737488351232 := by
  have : s.data.toList.length = s.size := by simp
  have e : reachBytes = 140737488351232 := by decide
  omega
theorem bulk_pos {H : Type} (d : DataW H) : 1 ≤ Rows.uptoBulk d := by
  cases d with
  | lit l => cases l <;> simp [Rows.uptoBulk]
  | _ => simp [Rows.uptoBulk]
theorem bulk_len {H : Type} (l : List (DataW H)) : l.length ≤ Rows.uptoBulkAll l := by
  induction l with
  | nil => simp [Rows.uptoBulkAll]
  | cons d r ih =>
    have := bulk_pos d
    simp only [Rows.uptoBulkAll, List.length_cons]
    omega
theorem bulk_string {H : Type} (s : ByteArray) : s.size ≤ Rows.uptoBulk (H := H) (.lit (.string s.data.toList)) := by
  simp [Rows.uptoBulk]
theorem bulk_nums {H : Type} {d : DataW H} {zs : List Int} (h : d = .nil ∧ zs = [] ∨ ∃ el sp, d = .slice el sp ∧ el.length = zs.length) : zs.length ≤ Rows.uptoBulk d := by
  rcases h with ⟨_, rfl⟩ | ⟨el, sp, rfl, h⟩
  · simp
  · have := bulk_len el
    simp only [Rows.uptoBulk]
    omega
theorem bulk_of {H : Type} {l : List (DataW H)} (h : Rows.uptoSmall H l = true) : Rows.uptoBulkAll l ≤ 1048576 := of_decide_eq_true h

theorem Try.bytes32 : Try.prog.bytesOf 21 = 4 := by kernel_rfl
end Go.Proofs.Ytmcbkflfopfolaa
namespace Go.Proofs.Ytmcbkflfopfolaa
open Go.ChangeShapes Go.WideShapes Go.ChangeAt Go.RowKit
set_option linter.unusedVariables false
theorem trod_len {H : Type} {enc : TypeId × Value → H} {W : World} {t e : TypeId} {a : Option Addr} {l c : Nat} {d : DataW H} {p : List MemPlace} (ht : Try.prog.underlying t = some (.slice e)) (h : DataW.Trod enc Try.prog W 0 (fun _ => true) true t (.slice a l c) d p)
    (hz : ∀ el sp, d = .slice el sp → (el.length + sp.length) * Try.prog.bytesOf e ≤ reachBytes) : l * Try.prog.bytesOf e ≤ reachBytes := by
  obtain ⟨fuel, hf⟩ := h
  have hf : DataW.trod enc Try.prog W 0 (fun _ => true) true fuel t [.slice a l c] = some (d, p) := by simpa [Value.cells] using hf
  rcases Go.Deep.open_slice ht hf with ⟨hcs, hx0⟩ | ⟨ad, l', c', m, n, D, Pl, hcs, _, hl, hm, hmm, hx, hele⟩
  · simp at hcs
    obtain ⟨rfl, rfl, rfl⟩ := hcs
    simp
  · simp at hcs
    obtain ⟨rfl, rfl, rfl⟩ := hcs
    simp only [Prod.mk.injEq] at hx
    have h5 := hz _ _ hx.1
    simp only [List.length_map, List.length_range] at h5
    exact Nat.le_trans (Nat.mul_le_mul_right _ (Nat.le_add_right _ _)) h5
theorem len_nums {l : Nat} (h : l * Try.prog.bytesOf 3 ≤ reachBytes) : l ≤ 17592186043904 := by
  have e : Try.prog.bytesOf 3 = 8 := by kernel_rfl
  have e2 : reachBytes = 140737488351232 := by decide
  rw [e, e2] at h; omega
theorem open_keepU {H : Type} {enc : TypeId × Value → H} {W : World} {v : Value} {d : DataW H} {p : List MemPlace} (h : DataW.Trod enc Try.prog W 0 (fun _ => true) true 22 v d p) (hv : ∃ a l c, v = .slice a l c) :
    ∃ (a : Option Addr) (nk c : Nat) (zs : List Int), v = .slice a nk c ∧ SlZ W a zs ∧ zs.length = nk ∧ nk ≤ c ∧ (a = none → zs = [] ∧ c = 0) := by
  obtain ⟨a, l, c, rfl⟩ := hv
  obtain ⟨fuel, hf⟩ := h
  have hf : DataW.trod enc Try.prog W 0 (fun _ => true) true fuel 22 [.slice a l c] = some (d, p) := by simpa [Value.cells] using hf
  rcases open_ints Try.underlying22 Try.underlying3 (by kernel_rfl) hf with ⟨hcs, hx0⟩ | ⟨ad, l', cap, zs, hcs, _, hl, hm, hzl, hx, hcell, hwz⟩
  · simp at hcs
    obtain ⟨rfl, rfl, rfl⟩ := hcs
    exact ⟨none, 0, 0, [], rfl, ⟨by simp, .inl rfl⟩, rfl, Nat.le_refl _, fun _ => ⟨rfl, rfl⟩⟩
  · simp at hcs
    obtain ⟨rfl, rfl, rfl⟩ := hcs
    simp only [if_true] at hzl
    have htl : (zs.take l).length = l := by rw [List.length_take]; omega
    refine ⟨some ad, l, c, zs.take l, rfl, ⟨fun z hz => bounds_i64 (hwz z (List.mem_of_mem_take hz)), ?_⟩, htl, hl, ?_⟩
    · by_cases h0 : l = 0
      · subst h0; exact .inl (by simp)
      · obtain ⟨b, off, spot⟩ := ad
        have hc := hcell 0 (by omega)
        have hspot : spot = none := by simpa [Addr.add] using World.cell?_spot hc
        subst hspot
        refine .inr ⟨b, off, rfl, World.block_lt_of_cell? _ _ hc, fun i y hy => ?_⟩
        have hi : i < l := by
          have := (List.getElem?_eq_some_iff.1 hy).1
          omega
        rw [List.getElem?_take, if_pos hi] at hy
        have h1 := hcell i (by omega)
        have e : (⟨b, off, none⟩ : Addr).add i = ⟨b, off + i, none⟩ := by simp [Addr.add]
        rw [e] at h1
        rw [h1, List.getD_eq_getElem?_getD, hy]
        rfl
    · intro h; cases h
end Go.Proofs.Ytmcbkflfopfolaa
namespace Go.Proofs.Ytmcbkflfopfolaa.ulogRoom
open Go.ChangeShapes Go.WideShapes Go.ChangeAt Go.RowKit Go.Proofs.Ytmcbkflfopfolaa
set_option linter.unusedVariables false

set_option maxRecDepth 100000 in
theorem lifted (os : Os) (started : os.Started) (H : Type) (enc : TypeId × Value → H) :
    ReturnsInHanded {} Try.checked os 4 .any (Rows.ulogRoomSpec.pre6 enc Try.prog Try.f4 Rows.ulogRoomRow.domain false) (Rows.ulogRoomSpec.post enc Try.prog Try.f4 false true false false) := by
  refine returnsInHanded_of_change (C := Try.checked) own started (by kernel_rfl) Try.func4
    (ChangeSpec.witness6 (enc := enc) (C := Try.checked) false ⟨#[], #[.slice none 0 0], []⟩ 8 (by kernel_rfl) (by kernel_rfl) (by kernel_rfl) (by kernel_rfl)) ?_
  intro W base args ds gs before hval0 hW hcnd _
  have hval : ∀ (j : Nat) t v, Try.f4.params[j]? = some t → args[j]? = some v → Value.okWide Try.prog W .any base t v := hval0
  have hW' := hW
  obtain ⟨p, q, hA0, hV, rfl, hfz, hnd⟩ := hW
  have hA : DataW.TrodAll enc Try.prog W 0 (fun _ => true) true Try.f4.params.toList args.toList ds p := hA0
  rw [Try.params4] at hA hval
  obtain ⟨v0, vs0, d0, ds0, p0, q0, hargs, rfl, rfl, h0, r0⟩ := trodAll_cons hA
  obtain ⟨rfl, rfl, rfl⟩ := trodAll_nil r0
  obtain rfl : args = #[v0] := by cases args; simp_all
  obtain ⟨rfl, rfl⟩ := trodVars_none hV
  have k0 := h0
  have lt0 : ∀ x ∈ p0, x.block < W.heap.size := by obtain ⟨m, hm⟩ := k0; exact DataW.trod_lt m _ _ _ hm
  obtain ⟨ka0, nk0, kc0, zs0, rfl, hz0, zl0, zc0, zb0⟩ := open_keepU h0 (by obtain ⟨a, l, c, e⟩ := okWide_slice Try.underlying22 (hval 0 22 v0 rfl rfl); exact ⟨a, l, c, e⟩)
  clear hval0
  clear hA0
  refine (ulogRoom_walk W ka0 nk0 kc0 zs0 hz0 zl0).mono fun e W' ⟨he, bel⟩ => ?_
  subst he
  exact ⟨_, rfl, _, _, _, [], _, [], hW', trodAll_mk1 (shut_bool Try.underlying4 _), (trodAll_cons_mk (Below.trod laidOut (by kernel_rfl) (of_decide_eq_true (by kernel_rfl)) k0 bel lt0) trodAll_mk0), rfl, bel.frame _, fun h => by cases h⟩

theorem over : Rows.ulogRoomRow.holds Try.pinned (OpenSpec.ofChange Rows.ulogRoomSpec) :=
  OpenClaim.holds_of_wide 4 Try.f4 rfl rfl rfl rfl rfl rfl rfl ⟨rfl, rfl, rfl, rfl, rfl⟩ rfl rfl rfl rfl rfl (by kernel_rfl) Try.func4 (by kernel_rfl)
    (of_decide_eq_true (by kernel_rfl)) (by unfold Func.isWrapper; first | (rw [if_pos (by decide +kernel)]; kernel_rfl) | (rw [if_neg (by decide +kernel)]; exact ⟨rfl, rfl⟩))
    (fun os started H enc _ => lifted os started H enc)

end Go.Proofs.Ytmcbkflfopfolaa.ulogRoom

namespace Go.Proofs.Ytmcbkflfopfolaa
/-- UlogRoom, as it is stated. -/
theorem ulogRoom_holds : Rows.UlogRoomSaid := ulogRoom.over
#print axioms ulogRoom_holds
end Go.Proofs.Ytmcbkflfopfolaa
