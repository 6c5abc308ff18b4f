/- UlogFresh answers true for all stories: records are told in new memory: told twice, written over and grown, they share nothing with one another, with what is told next, and with the device. -/
import Derived.Test.YtafmpdljljmddaaFrBM
import Derived.Test.YtafmpdljljmddaaUhBM
import Derived.Deep.QuietTactic
import Derived.BigQuiet
import Derived.WalkSmall
import Derived.Test.YtafmpdljljmddaaBase
import Derived.Test.YtafmpdljljmddaaEq
import Derived.ProofKit
import Derived.ChangeOld
import Derived.SizedLaws
import Derived.JoinedCond
import Derived.Deep.Slices
import Derived.ChangeSlices
namespace Go.Proofs.Ytafmpdljljmddaa
open Go.RowKit Go.Shelf
set_option linter.unusedVariables false
set_option maxRecDepth 100000

theorem SlE.kp {B0 : Nat} {w w' : World} {a : Option Addr} {xs : List (Int × Int)} (h : SlE w a xs) (hg : Kp8 B0 w w') : SlE w' a xs :=
  ⟨h.1, h.2.imp id (fun ⟨g, o, c, h1, h2, h3⟩ => ⟨g, o, c, h1, hg.keep g _ _ _ h2 ext_nd, h3⟩)⟩
set_option maxHeartbeats 8000000 in
theorem ulogFresh_walk (w : World) (ea a1 a2 : Option Addr) (m c m1 c1 m2 c2 : Nat) (lg : Bool) (xs : List (Int × Int)) (h : SlX w ea xs) (hm : xs.length = m) :
    Calls Try.prog 3 #[.agg #[.slice ea m c, .slice a1 m1 c1, .slice a2 m2 c2, .bool lg]] w fun e w' => e = .returned (.bool true) ∧ Below w.heap.size w w' := by
  obtain ⟨i0, hi0, hi1, hi2, hi3⟩ := infoRec
  obtain ⟨i1, hj0, hj1, hj2, hj3⟩ := info_parts Try.info22
  have hA : Below w.heap.size w (w.alloc (.cells #[.slice ea m c, .slice a1 m1 c1, .slice a2 m2 c2, .bool lg] 26)) := (Below.refl _ w).alloc (Nat.le_refl _) _
  have hX := heap_alloc_new w (.cells #[.slice ea m c, .slice a1 m1 c1, .slice a2 m2 c2, .bool lg] 26)
  have HE := hide h
  have HM := hide hm
  clear h hm
  go_enter Try.func3, Try.ntmps3
  go_upto_region 1 with (fail)
  generalize hXX : w.alloc (.cells #[.slice ea m c, .slice a1 m1 c1, .slice a2 m2 c2, .bool lg] 26) = X at *
  have hsX : w.heap.size < X.heap.size := lt_of_heap hX
  have HA := hide hA
  have HX := hide hX
  clear hA hX hXX
  go_upto_region 6 with (first
    | (go_at_call 4; refine (uawake_any _).mono ?_; rintro e W0 ⟨rfl, hb⟩; have HB0 := hide hb; have KM := hide (umade_any 384 W0 (by omega) (by omega) (by omega)); clear hb)
    | (go_at_call 5; refine (KM.out).mono ?_; rintro e W1 ⟨b, L, gl, rfl, hd, hN, hf, hl, hB⟩; obtain ⟨σ, hlg, hn, ho, hby⟩ := lg_made hd hN hf hl hB; have HL := hide hlg; have HP := hide (And.intro hn (And.intro ho hby)); have HB := hide hB; clear hd hN hf hl hlg hn ho hby hB))
  clear KM
  have hXW := bseq HB0.out HB.out
  have hr4 := (hXW.block _ hsX).trans HX.out
  have q0 : W1.cell? ⟨w.heap.size, 0, none⟩ = some (.slice ea m c) := cell8 hr4 0
  have q1 : W1.cell? ⟨w.heap.size, 1, none⟩ = some (.slice a1 m1 c1) := cell8 hr4 1
  have q2 : W1.cell? ⟨w.heap.size, 2, none⟩ = some (.slice a2 m2 c2) := cell8 hr4 2
  have q3 : W1.cell? ⟨w.heap.size, 3, none⟩ = some (.bool lg) := cell8 hr4 3
  have HXW := hide (bseq HA.out hXW)
  have KB := hide (ubrought_any (ea := ea) (a1 := a1) (a2 := a2) (c := c) (m1 := m1) (c1 := c1) (m2 := m2) (c2 := c2) (lg := lg) (HE.out.below HXW.out) HM.out)
  clear hXW hr4
  go_upto_region 8 with (first
    | (go_at_call 6; refine (KB.out).mono ?_; rintro e W2 ⟨v, rfl, k, hkm, hk5, hrow, hb2⟩; have HROW := hide hrow; have HB2 := hide hb2; have HL2 := hide (HL.out.below hb2); have kim := pimg_any HL2.out.dv.dev HL2.out.dv.ok; rw [HP.out.1, HP.out.2.2] at kim; have KIM := hide kim; clear hrow hb2 kim)
    | (go_at_call 7; refine (KIM.out).mono ?_; rintro e W3 ⟨rfl, hO3, hb3⟩; have HO3 := hide hO3; have HB3 := hide hb3; have HL3 := hide (HL2.out.below hb3); clear hO3 hb3))
  clear KB KIM q0 q1 q2 q3
  obtain ⟨R, hR⟩ : ∃ R, W2.heap.size = R := ⟨_, rfl⟩
  rw [hR] at HO3 ⊢
  have hrow3 := own_below HROW.out HB3.out
  have HB13 := hide (bseq HB2.out HB3.out)
  have hkx : k ≤ xs.length := by rw [HM.out]; exact hkm
  have hbr : ∀ x ∈ brL xs k, (-9223372036854775808 ≤ x.1 ∧ x.1 ≤ 9223372036854775807) ∧ (-9223372036854775808 ≤ x.2 ∧ x.2 ≤ 9223372036854775807) := fun x hx => by
    have := brL_in x hx
    exact ⟨by omega, by omega⟩
  obtain ⟨va, vcp, hvs, hse3⟩ := sle_of_row (cap := 0) hrow3 (brL_len hkx) hbr
  subst hvs
  have KW := hide (fr_write (cap := vcp) HL3.out HP.out.1 HP.out.2.1 HP.out.2.2 hkx hk5 hse3)
  have HSE3 := hide hse3
  clear HROW hrow3 hbr hse3 hR
  go_upto_region 10 with (go_at_call 8; refine (KW.out).mono ?_; rintro e W4 ⟨rfl, L4, s4, hl4, hn4, ho4, hnum4, hrec4, hk4⟩; have HL4 := hide hl4; have HP4 := hide (And.intro hn4 (And.intro ho4 (And.intro hnum4 hrec4))); have HK4 := hide hk4; clear hl4 hn4 ho4 hnum4 hrec4 hk4)
  clear KW
  have hbw4 : Below w.heap.size w W4 := bseq (bseq HA.out HB0.out) ((bseq HB.out HB13.out).trans HK4.out.below)
  have HBW4 := hide hbw4
  have hO4 : OwnB W4 R (imgZ 8) := HK4.out.keep R _ _ _ HO3.out byte_nd
  have hse4 : SlE W4 va (brL xs k) := HSE3.out.kp HK4.out
  have hrl : (recL (imgZ 8) (brL xs k)).length = k := by rw [recL_len, brL_len hkx]
  have hyl : ∀ r ∈ recL (imgZ 8) (brL xs k), r.2.length ≤ 4194304 := fun r hr => by
    unfold recL at hr
    obtain ⟨x, hx, rfl⟩ := List.mem_map.1 hr
    have h1 := brL_in x hx
    have h2 := fine_old (brL_fine x hx) imgZ_len
    show (oldOf (imgZ 8) x).length ≤ 4194304
    omega
  have hrb : ∀ r ∈ recL (imgZ 8) (brL xs k), ∀ y ∈ r.2, y < 256 := fun r hr y hy => (RecsAt.each (N := 16) (by omega) (by omega) HL4.out.dv.ok.byte _ 192 HP4.out.2.2.2 r hr).2.2 y hy
  have kr := fun W (hB : Below W4.heap.size W4 W) => lrecords_ok (recL (imgZ 8) (brL xs k)) (HL4.out.below hB).log (HL4.out.below hB).dv (by omega) (by omega) (by rw [HP4.out.1]; omega) (by rw [hrl]; exact HP4.out.2.2.1) (by rw [HP4.out.1]; exact HP4.out.2.2.2) (by omega)
  have KOL := hide (fun W (hB : Below W4.heap.size W4 W) => uolds_own (c := vcp) (ic := 1024) (hO4.below hB hO4.lt) imgZ_len (by omega) imgZ_lt (hse4.below hB) (brL_len hkx) (by omega) (fun x hx => by have := brL_in x hx; omega))
  have KRW := hide (fun W base v Cs (h : OldR W base v (imgZ 8) (brL xs k) Cs) => h.rowR imgZ_lt (fun x hx => by have := brL_in x hx; omega))
  have hbl := brL_len hkx
  have HBL := hide hbl
  clear hO4 hse4 hbw4 hbl
  generalize recL (imgZ 8) (brL xs k) = rs at *
  generalize brL xs k = bl at *
  have KR := hide kr
  have KRA := hide (kr W4 (Below.refl _ _))
  have HRL := hide hrl
  have HYL := hide hyl
  have HRB := hide hrb
  clear kr hrl hyl hrb
  go_upto_region 13 with (first
    | (go_at_call 9; refine (KRA.out).mono ?_; rintro e W5 ⟨v5, Ra, rfl, hrow5, hb5⟩; obtain ⟨ra, rac, hv5, _⟩ := hrow5.shape; rw [HRL.out] at hv5; subst hv5; have HRA5 := hide hrow5; have HB5 := hide hb5; have KRB := hide (KR.out W5 hb5); clear hrow5 hb5 KRA)
    | (go_at_call 9; refine (KRB.out).mono ?_; rintro e W6 ⟨v6, Rb, rfl, hrow6, hb6⟩; obtain ⟨rb, rbc, hv6, _⟩ := hrow6.shape; rw [HRL.out] at hv6; subst hv6; have HRB6 := hide hrow6; have HRA6 := hide (HRA5.out.keep hb6); have HB56 := hide hb6; have HB6 := hide (bseq HB5.out hb6); have KOX := hide (KOL.out W6 HB6.out); clear hrow6 hb6 KRB)
    | (go_at_call 10; refine (KOX.out).mono ?_; rintro e W7 ⟨vw, rfl, ⟨Cs, hold⟩, hb7⟩; have HOLD7 := hide hold; have HB67 := hide hb7; clear hold hb7 KOX))
  have HSM := hide (fun W va vb (h1 : RowR W va rs) (h2 : RowR W vb rs) => usame_yes h1 h2 (by rw [HRL.out]; omega) HYL.out)
  obtain ⟨wa, wc, hvw⟩ := own_slice HOLD7.out.row
  rw [HBL.out] at hvw
  subst hvw
  have KS1 := hide (HSM.out W7 _ _ ((HRA6.out.rowR HRB.out).below HB67.out) (KRW.out W7 _ _ _ HOLD7.out))
  go_upto_region 15 with (first
    | (go_at_call 11; refine (KS1.out).mono ?_; rintro e W8 ⟨rfl, hb8⟩; have HB78 := hide hb8; have KS2 := hide (HSM.out W8 _ _ ((HRB6.out.rowR HRB.out).below (bseq HB67.out hb8)) ((KRW.out W7 _ _ _ HOLD7.out).below hb8)); clear hb8 KS1)
    | (go_at_call 11; refine (KS2.out).mono ?_; rintro e W9 ⟨rfl, hb9⟩; have HB79 := hide (bseq HB78.out hb9); clear hb9 KS2))
  have HB69 := hide (bseq HB67.out HB79.out)
  have HRA9 := hide (HRA6.out.keep HB69.out)
  have HRB9 := hide (HRB6.out.keep HB69.out)
  have HOLD9 := hide (HOLD7.out.keep (fun g _ hg => HB79.out.block g hg))
  have hab : ∀ R ∈ Ra, R < W5.heap.size := fun R hR => by
    obtain ⟨_, C, hC⟩ := fr_mem HRA5.out R hR
    exact hC.lt
  have HAB := hide hab
  have hRaB : ∀ R ∈ Ra, W4.heap.size ≤ R := fun R hR => (fr_mem HRA5.out R hR).1
  have hRbB : ∀ R ∈ Rb, W5.heap.size ≤ R ∧ R < W6.heap.size := fun R hR => by
    obtain ⟨h1, C, hC⟩ := fr_mem HRB6.out R hR
    exact ⟨h1, hC.lt⟩
  have HRG := hide (And.intro hRaB hRbB)
  have hs45 := HB5.out.size
  have hs56 := HB56.out.size
  have hs69 := HB69.out.size
  have hwhr : Whr W9 W4.heap.size W6.heap.size (.slice ra k rac) (.slice rb k rbc) := by
    refine ⟨fun g hg => ?_, fun g hg => ?_, fun g hg hg2 => ?_, hs69⟩
    · have h1 := (HRA5.out.row.lt g hg).1
      have h2 := ob_lt HRA6.out.row hg
      exact ⟨h1, h2⟩
    · have h1 := (HRB6.out.row.lt g hg).1
      have h2 := ob_lt HRB6.out.row hg
      exact ⟨by omega, h2⟩
    · have h1 := ob_lt HRA5.out.row hg
      have h2 := (HRB6.out.row.lt g hg2).1
      omega
  have HWHR := hide hwhr
  have HKS := hide (And.intro hs45 (And.intro hs56 hs69))
  clear hab hRaB hRbB hwhr HRA5 HRA6 HRB6 HOLD7 HB67 HB78 KOL hs45 hs56 hs69
  go_wp2_with (fail)
  try go_frame
  go_loopw [13, 14] (fun v iv wr => ∃ i : Nat, iv = .int .i64 (i : Int) ∧ i ≤ k ∧ wr.ownsRow W9.heap.size 33 1 v (2 * i) (allC rs Ra Rb i) ∧ Below W9.heap.size W9 wr) (fun _ iv _ => (k - (intOf iv).toNat))
  case atStart => exact ⟨0, rfl, Nat.zero_le _, ⟨rfl, .inl ⟨rfl, rfl⟩⟩, Below.refl _ _⟩
  case round =>
    obtain ⟨i, rfl, hik, hrow, hBr⟩ := hrel
    obtain ⟨la, lc, hvs⟩ := own_slice hrow
    subst hvs
    by_cases hlt : i < k
    · have iI : (i : Int) < (k : Int) := by omega
      obtain ⟨ga, cura, rfl, hgab, hga, hcua⟩ := fr_cell HRA9.out HRL.out hlt
      obtain ⟨gb, curb, rfl, hgbb, hgb, hcub⟩ := fr_cell HRB9.out HRL.out hlt
      have hsu := allC_succ rs Ra Rb i
      have hgaw := lt_of_heap hga
      have hgbw := lt_of_heap hgb
      have s0 : wr.drew.cell? ⟨ga, i * 2 + 1, none⟩ = some (.slice (some ⟨Ra.getD i 0, 24, none⟩) (fL rs i) (fK rs i)) ∧ wr.drew.cell? ⟨gb, i * 2 + 1, none⟩ = some (.slice (some ⟨Rb.getD i 0, 24, none⟩) (fL rs i) (fK rs i)) := ⟨(hBr.cell (p := ⟨ga, i * 2 + 1, none⟩) hgaw).trans ((cell8 hga _).trans hcua), (hBr.cell (p := ⟨gb, i * 2 + 1, none⟩) hgbw).trans ((cell8 hgb _).trans hcub)⟩
      generalize Ra.getD i 0 = xa at *
      generalize Rb.getD i 0 = xb at *
      generalize fL rs i = fl at *
      generalize fK rs i = fk at *
      have IXA := hide (fun X => index_recU ga i k rac hlt X)
      have IXB := hide (fun X => index_recU gb i k rbc hlt X)
      have S0 := hide s0
      have HROW := hide hrow
      have HBR := hide hBr
      have HSU := hide hsu
      have hwr9 := hBr.size
      clear hrow hBr hsu s0 hcua hcub hga hgb hgab hgbb
      go_wp2_with (fail)
      try go_frame
      refine wp_region_held_drew (S := fun Y => Y.cell? ⟨ga, i * 2 + 1, none⟩ = some (.slice (some ⟨xa, 24, none⟩) fl fk) ∧ Y.cell? ⟨gb, i * 2 + 1, none⟩ = some (.slice (some ⟨xb, 24, none⟩) fl fk)) (by kernel_rfl) S0.out (fun hS => ?_)
      refine wpAnyH_take (i := 0) (v := (.slice la (2 * i) lc)) rfl (by kernel_rfl) (by kernel_rfl) (by kernel_rfl) (fun _ _ _ h => h) (Or.inl ⟨by kernel_rfl, fun w' hw => by (go_simp)⟩) hS ?_
      refine wpAnyH_take (i := 1) (v := (.slice (some ⟨ga, 0, none⟩) k rac)) rfl (by kernel_rfl) (by kernel_rfl) (by kernel_rfl) (fun _ _ _ h => h) (Or.inl ⟨by kernel_rfl, fun w' hw => by (go_simp)⟩) hS ?_
      refine wpAnyH_take (i := 2) (v := (.int .i64 (i : Int))) rfl (by kernel_rfl) (by kernel_rfl) (by kernel_rfl) (fun _ _ _ h => h) (Or.inl ⟨by kernel_rfl, fun w' hw => by (go_simp)⟩) hS ?_
      refine wpAnyH_take (i := 3) (v := (.pointer (some ⟨ga, i * 2, none⟩))) rfl (by kernel_rfl) (by kernel_rfl) (by kernel_rfl) (fun _ _ _ h => h) (Or.inl ⟨by kernel_rfl, fun w' hw => by (have e := IXA.out w'; go_simp)⟩) hS ?_
      refine wpAnyH_take (i := 4) (v := (.pointer (some ⟨ga, i * 2 + 1, none⟩))) rfl (by kernel_rfl) (by kernel_rfl) (by kernel_rfl) (fun _ _ _ h => h) (Or.inl ⟨by kernel_rfl, fun w' hw => by (go_simp)⟩) hS ?_
      refine wpAnyH_take (i := 5) (v := (.slice (some ⟨xa, 24, none⟩) fl fk)) rfl (by kernel_rfl) (by kernel_rfl) (by kernel_rfl) (fun _ _ _ h => h) (Or.inl ⟨by kernel_rfl, fun w' hw => by (have e0 := hw.1; go_simp)⟩) hS ?_
      refine wpAnyH_take (i := 6) (v := (.slice (some ⟨gb, 0, none⟩) k rbc)) rfl (by kernel_rfl) (by kernel_rfl) (by kernel_rfl) (fun _ _ _ h => h) (Or.inl ⟨by kernel_rfl, fun w' hw => by (go_simp)⟩) hS ?_
      refine wpAnyH_take (i := 7) (v := (.int .i64 (i : Int))) rfl (by kernel_rfl) (by kernel_rfl) (by kernel_rfl) (fun _ _ _ h => h) (Or.inl ⟨by kernel_rfl, fun w' hw => by (go_simp)⟩) hS ?_
      refine wpAnyH_take (i := 8) (v := (.pointer (some ⟨gb, i * 2, none⟩))) rfl (by kernel_rfl) (by kernel_rfl) (by kernel_rfl) (fun _ _ _ h => h) (Or.inl ⟨by kernel_rfl, fun w' hw => by (have e := IXB.out w'; go_simp)⟩) hS ?_
      refine wpAnyH_take (i := 9) (v := (.pointer (some ⟨gb, i * 2 + 1, none⟩))) rfl (by kernel_rfl) (by kernel_rfl) (by kernel_rfl) (fun _ _ _ h => h) (Or.inl ⟨by kernel_rfl, fun w' hw => by (go_simp)⟩) hS ?_
      refine wpAnyH_take (i := 10) (v := (.slice (some ⟨xb, 24, none⟩) fl fk)) rfl (by kernel_rfl) (by kernel_rfl) (by kernel_rfl) (fun _ _ _ h => h) (Or.inl ⟨by kernel_rfl, fun w' hw => by (have e0 := hw.2; go_simp)⟩) hS ?_
      have hA5 : Below wr.heap.size wr (wr.drew.alloc (.cells #[(.slice (some ⟨xa, 24, none⟩) fl fk), (.slice (some ⟨xb, 24, none⟩) fl fk)] 33)) := bseq (Below.refl _ wr).drew ((Below.refl _ wr.drew).alloc (Nat.le_refl _) _)
      refine wpAnyH_goS (i := 11) (by kernel_rfl) rfl (by kernel_rfl) (fun K hK => ?_)
      go_wp2_with (fail)
      have hga2 : ga < wr.heap.size := Nat.lt_of_lt_of_le hgaw hwr9
      have hgb2 : gb < wr.heap.size := Nat.lt_of_lt_of_le hgbw hwr9
      have hS5 : (wr.drew.alloc (.cells #[(.slice (some ⟨xa, 24, none⟩) fl fk), (.slice (some ⟨xb, 24, none⟩) fl fk)] 33)).cell? ⟨ga, i * 2 + 1, none⟩ = some (.slice (some ⟨xa, 24, none⟩) fl fk) ∧ (wr.drew.alloc (.cells #[(.slice (some ⟨xa, 24, none⟩) fl fk), (.slice (some ⟨xb, 24, none⟩) fl fk)] 33)).cell? ⟨gb, i * 2 + 1, none⟩ = some (.slice (some ⟨xb, 24, none⟩) fl fk) := ⟨(hA5.cell (p := ⟨ga, i * 2 + 1, none⟩) hga2).trans S0.out.1, (hA5.cell (p := ⟨gb, i * 2 + 1, none⟩) hgb2).trans S0.out.2⟩
      refine hK.out _ _ hS5 ?_
      clear hK K
      have HR5 := hide (own_below HROW.out hA5)
      have hsz5 : W9.heap.size ≤ (wr.drew.alloc (.cells #[(.slice (some ⟨xa, 24, none⟩) fl fk), (.slice (some ⟨xb, 24, none⟩) fl fk)] 33)).heap.size := Nat.le_trans hwr9 hA5.size
      refine wpAnyH_goS (i := 12) (by kernel_rfl) rfl (by kernel_rfl) (fun K hK => ?_)
      refine wp_append_at (.tmp 81) (.tmp 92) 42 (by kernel_rfl) W9.heap.size 33 i1 (.slice none 0 0) 1 24 Try.underlying42 hj0 hj1 hj2 hj3 rfl (by decide) (.slice la (2 * i) lc) (2 * i) (allC rs Ra Rb i) (by kernel_rfl) HR5.out ⟨wr.heap.size, 0, none⟩ 2 2 [(.slice (some ⟨xa, 24, none⟩) fl fk), (.slice (some ⟨xb, 24, none⟩) fl fk)] (by kernel_rfl) rfl (cell_twoU wr.drew _ _ _) (by simp [Value.oneCell']) (by unfold maxLen; omega) (by omega) hsz5 ?_
      intro v4 x1 ho4 hg4 _ _
      have hbx : Below W9.heap.size W9 x1 := bel_of_grownT (bseq HBR.out hA5) HR5.out hg4
      have hgx : ∀ g, g < W9.heap.size → x1.heap[g]? = wr.heap[g]? := fun g hg => (hbx.block g hg).trans (HBR.out.block g hg).symm
      have hS6 : x1.cell? ⟨ga, i * 2 + 1, none⟩ = some (.slice (some ⟨xa, 24, none⟩) fl fk) ∧ x1.cell? ⟨gb, i * 2 + 1, none⟩ = some (.slice (some ⟨xb, 24, none⟩) fl fk) := ⟨(cell_keep (hgx ga hgaw)).trans S0.out.1, (cell_keep (hgx gb hgbw)).trans S0.out.2⟩
      refine hK.out _ _ hS6 ?_
      clear hK K
      have YR : Hid (x1.ownsRow W9.heap.size 33 1 v4 (2 * (i + 1)) (allC rs Ra Rb (i + 1))) := by
        show x1.ownsRow _ _ _ _ _ _
        rw [HSU.out]
        exact ho4
      have YB := hide hbx
      clear hgx hbx ho4 hg4
      refine wpAnyH_take (i := 13) (v := v4) rfl (by kernel_rfl) (by kernel_rfl) (by kernel_rfl) (fun _ _ _ h => h) (Or.inl ⟨by kernel_rfl, fun w' hw => by (go_simp)⟩) hS6 ?_
      refine wpAnyH_done (by kernel_rfl) ?_ _
      simp only [Act.put, List.getElem_toArray, List.getElem_cons_zero, List.getElem_cons_succ, List.setIfInBounds_toArray, List.set_cons_zero, List.set_cons_succ]
      go_wp2_with (fail)
      go_roundw
      case rel => exact ⟨i + 1, int_congrP (by omega), by omega, YR.out, YB.out⟩
      case measure => simp [intOf]; omega
    · obtain rfl : i = k := by omega
      have iI : ¬ (i : Int) < (i : Int) := by omega
      have KAP := hide (fr_apart HRL.out hk5 hrow (HRA9.out.keep (hBr)) (HRB9.out.keep hBr) HAB.out HYL.out)
      have HBR := hide hBr
      clear hrow hBr
      go_upto_region 22 with (go_at_call 12; refine (KAP.out).mono ?_; rintro e WA ⟨rfl, hga⟩; have HGA := hide hga; clear hga)
      have hbn : ∀ g, g ∈ Ra ∨ g ∈ Rb → W4.heap.size ≤ g ∧ g < W6.heap.size := fun g hg => by
        obtain ⟨z1, z2, z3⟩ := HKS.out
        rcases hg with h | h
        · have h1 := HRG.out.1 g h
          have h2 := HAB.out g h
          omega
        · have h1 := HRG.out.2 g h
          omega
      have hty : ∀ g c, wr.heap[g]? = some (.cells c 44 (0, 0)) → ¬ (g ∈ Ra ∨ g ∈ Rb) := fun g c hc hg => by
        rcases hg with h | h
        · obtain ⟨_, C, hC⟩ := fr_mem (HRA9.out.keep HBR.out) g h
          exact ne_ty hc hC (by decide) rfl
        · obtain ⟨_, C, hC⟩ := fr_mem (HRB9.out.keep HBR.out) g h
          exact ne_ty hc hC (by decide) rfl
      have hovr : Ovr W9 WA W4.heap.size W5.heap.size W4.heap.size W6.heap.size (.slice ra i rac) (.slice rb i rbc) i 0 := by
        have e1 := (HRA9.out.keep HBR.out).row
        have e2 := (HRB9.out.keep HBR.out).row
        rw [HRL.out] at e1 e2
        refine ⟨⟨_, ownsRow_of_block e1 (fun g hg => ?_), fun j hj => by omega⟩, ⟨_, ownsRow_of_block e2 (fun g hg => ?_), fun j hj => by omega⟩, (Gr.of_below HBR.out : Gr _ W9 wr).trans HGA.out (fun g hg => .inl (hbn g hg))⟩
        · obtain ⟨c', hc'⟩ := own_type e1 hg
          exact HGA.out.block (lt_of_heap hc') (hty g c' hc')
        · obtain ⟨c', hc'⟩ := own_type e2 hg
          exact HGA.out.block (lt_of_heap hc') (hty g c' hc')
      have HOVR := hide hovr
      clear hovr hty hbn KAP HGA
      go_wp2_with (fail)
      try go_frame
      go_loopw [15] (fun iv wy => ∃ j : Nat, iv = .int .i64 (j : Int) ∧ j ≤ i ∧ Ovr W9 wy W4.heap.size W5.heap.size W4.heap.size W6.heap.size (.slice ra i rac) (.slice rb i rbc) i j) (fun iv _ => (i - (intOf iv).toNat))
      case atStart => exact ⟨0, rfl, Nat.zero_le _, HOVR.out⟩
      case round =>
        obtain ⟨j, rfl, hji, hov⟩ := hrel
        by_cases hjlt : j < i
        · have jI : (j : Int) < (i : Int) := by omega
          obtain ⟨ya, ha1, ha2⟩ := hov.ra
          obtain ⟨yb, hb1, hb2⟩ := hov.rb
          obtain ⟨ga, capa, x0, x1, hva, hgab, hgaw, hc0, hc1, hf0, hf1, hset⟩ := own_set2 ha1 hjlt
          cases hva
          obtain ⟨gb, capb, hvb⟩ : ∃ gb capb, Value.slice rb i rbc = .slice (some ⟨gb, 0, none⟩) i capb := by
            obtain ⟨gb, capb, y0, y1, hvb, _⟩ := own_set2 hb1 hjlt
            exact ⟨gb, capb, hvb⟩
          cases hvb
          have hne : ga ≠ gb := fun e => HWHR.out.ne ga rfl (by rw [e]; rfl)
          have hb3 : (set2At wr ga (j * 2) (.int .i64 1) (.slice none 0 0)).ownsRow W5.heap.size 44 2 (.slice (some ⟨gb, 0, none⟩) i rbc) i yb := ownsRow_of_block hb1 (fun g hg => by
            have e : gb = g := by simpa [Value.ownBlock] using hg
            subst e
            exact set2_other (fun e => hne e.symm))
          obtain ⟨g2, c2', y0, y1, hvb, hgbb, hgbw, hd0, hd1, hg0, hg1, hset2⟩ := own_set2 hb3 hjlt
          cases hvb
          have HST := hide (hov.step HWHR.out hjlt)
          have hc1' := hc1 (.int .i64 1)
          have hd1' := hd1 (.int .i64 2)
          have HD := hide (And.intro hd0 (And.intro hd1' (And.intro hg0 hg1)))
          have ia : ∀ X, (Instr.indexAt 37 (.slice (some ⟨ga, 0, none⟩) i rac) (.int .i64 (j : Int))).run Try.prog X = .ok (.pointer (some ⟨ga, j * 2, none⟩)) X := fun X => index_recU ga j i rac hjlt X
          have ib : ∀ X, (Instr.indexAt 37 (.slice (some ⟨gb, 0, none⟩) i rbc) (.int .i64 (j : Int))).run Try.prog X = .ok (.pointer (some ⟨gb, j * 2, none⟩)) X := fun X => index_recU gb j i rbc hjlt X
          clear hov ha1 ha2 hb1 hb2 hb3 hset hset2 hc1 hd1 hd0 hd1' hg0 hg1 hne hgab hgbb
          go_upto_region 26 with (fail)
          obtain ⟨WS, hWS⟩ : ∃ WS, set2At wr ga (j * 2) (.int .i64 1) (.slice none 0 0) = WS := ⟨_, rfl⟩
          rw [hWS] at HST HD hgbw
          unfold set2At at hWS
          rw [hWS]
          obtain ⟨d0, d1, f0, f1⟩ := HD.out
          clear hWS hc0 hc1' hf0 hf1 ia
          go_wp2_with (fail)
          go_roundw
          case rel => exact ⟨j + 1, int_congrP (by omega), by omega, HST.out⟩
          case measure => simp [intOf]; omega
        · obtain rfl : j = i := by omega
          have jI : ¬ (j : Int) < (j : Int) := by omega
          have HGRO := hide (hov.gro HWHR.out)
          clear hov HOVR
          go_wp2_with (fail)
          try go_frame
          go_loopw [16, 17, 18] (fun p q iv wz => ∃ t : Nat, iv = .int .i64 (t : Int) ∧ t ≤ 20 ∧ Gro W9 wz W4.heap.size W5.heap.size W4.heap.size W6.heap.size (.slice ra j rac) (.slice rb j rbc) p q j t t) (fun _ _ iv _ => (20 - (intOf iv).toNat))
          case atStart => exact ⟨0, rfl, Nat.zero_le _, HGRO.out⟩
          case round =>
            obtain ⟨t, rfl, ht20, hgr⟩ := hrel
            obtain ⟨yp, hp1, hp2⟩ := hgr.rp
            obtain ⟨pa, pc, hpv⟩ := own_slice hp1
            subst hpv
            obtain ⟨yq0, hq1, hq2⟩ := hgr.rq
            obtain ⟨qa, qc, hqv⟩ := own_slice hq1
            subst hqv
            have hsz := hgr.gr.size
            obtain ⟨z1, z2, z3⟩ := HKS.out
            by_cases htlt : t < 20
            · have tI : (t : Int) < 20 := by omega
              have hAl : Below wr.heap.size wr (wr.alloc (.cells #[.int .i64 3, .slice none 0 0] 44)) := (Below.refl _ wr).alloc (Nat.le_refl _) _
              have HG1 := hide (hgr.below HWHR.out hAl)
              have HP1 := hide (own_below hp1 hAl)
              have hsA : W4.heap.size ≤ (wr.alloc (.cells #[.int .i64 3, .slice none 0 0] 44)).heap.size := by have := hAl.size; omega
              have HP2 := hide hp2
              have HYP := hide hp1.1
              clear hgr hp1 hp2 hq1 hq2 hAl
              go_upto_region 32 with (at_builtin; refine wpList_append_alias _ rfl _ _ 37 rfl W4.heap.size 44 i0 (.agg #[.int .i64 0, .slice none 0 0]) 2 32 Try.underlying37 hi0 hi1 hi2 hi3 rfl (by omega) (.slice pa (j + t) pc) (j + t) yp rfl HP1.out ⟨wr.heap.size, 0, none⟩ 1 1 [.int .i64 3, .slice none 0 0] rfl rfl (cell_twoU wr _ _ _) (by simp [Value.oneCell']) (by omega) (by unfold maxLen; omega) (by omega) hsA ?_; intro v3 w3 ho3 ha3)
              have HG2 := hide (HG1.out.pushP HWHR.out HP2.out HYP.out ho3 ha3)
              clear ho3 ha3 HG1 HP1 HP2 HYP hsA
              obtain ⟨yq, hq1, hq2⟩ := HG2.out.rq
              have hsz3 := HG2.out.gr.size
              have hAl : Below w3.heap.size w3 (w3.alloc (.cells #[.int .i64 4, .slice none 0 0] 44)) := (Below.refl _ w3).alloc (Nat.le_refl _) _
              have HG3 := hide (HG2.out.below HWHR.out hAl)
              have HQ1 := hide (own_below hq1 hAl)
              have hsB : W5.heap.size ≤ (w3.alloc (.cells #[.int .i64 4, .slice none 0 0] 44)).heap.size := by have := hAl.size; omega
              have HQ2 := hide hq2
              have HYQ := hide hq1.1
              clear hq1 hq2 hAl HG2
              go_upto_region 30 with (at_builtin; refine wpList_append_alias _ rfl _ _ 37 rfl W5.heap.size 44 i0 (.agg #[.int .i64 0, .slice none 0 0]) 2 32 Try.underlying37 hi0 hi1 hi2 hi3 rfl (by omega) (.slice qa (j + t) qc) (j + t) yq rfl HQ1.out ⟨w3.heap.size, 0, none⟩ 1 1 [.int .i64 4, .slice none 0 0] rfl rfl (cell_twoU w3 _ _ _) (by simp [Value.oneCell']) (by omega) (by unfold maxLen; omega) (by omega) hsB ?_; intro v4 w4 ho4 ha4)
              have HG4 := hide (HG3.out.pushQ HWHR.out HQ2.out HYQ.out ho4 ha4)
              clear ho4 ha4 HG3 HQ1 HQ2 HYQ hsB
              go_wp2_with (fail)
              go_roundw
              case rel => exact ⟨t + 1, int_congrP (by omega), by omega, HG4.out⟩
              case measure => simp [intOf]; omega
            · obtain rfl : t = 20 := by omega
              have tI : ¬ ((20 : Nat) : Int) < 20 := by omega
              generalize hwz : wr = wz at *
              clear hwz
              obtain ⟨N, hN⟩ : ∃ N, j + 20 = N := ⟨_, rfl⟩
              obtain ⟨hp2, hp3⟩ := hp2
              obtain ⟨hq2, hq3⟩ := hq2
              rw [hN] at hp1 hp3 hq1 hq3 ⊢
              have hN1 : 0 < N := by omega
              have hjN : j ≤ N := by omega
              have hN25 : N ≤ 25 := by omega
              have HGR := hide hgr
              have HCP : Hid (∀ u, u < N → wz.cell? ⟨(pa.getD ⟨0, 0, none⟩).block, u * 2, none⟩ = some (.int .i64 (if u < j then 1 else 3)) ∧ pa = some ⟨(pa.getD ⟨0, 0, none⟩).block, 0, none⟩) := fun u hu => by
                rcases hp1.2 with ⟨_, h0⟩ | ⟨g, cap, cur, e, _⟩
                · omega
                · cases e
                  refine ⟨?_, rfl⟩
                  refine own_cell2 (g := g) hp1 rfl ?_
                  split
                  · exact hp2 u (by assumption)
                  · exact hp3 u (by omega) hu
              have HCQ : Hid (∀ u, u < N → wz.cell? ⟨(qa.getD ⟨0, 0, none⟩).block, u * 2, none⟩ = some (.int .i64 (if u < j then 2 else 4)) ∧ qa = some ⟨(qa.getD ⟨0, 0, none⟩).block, 0, none⟩) := fun u hu => by
                rcases hq1.2 with ⟨_, h0⟩ | ⟨g, cap, cur, e, _⟩
                · omega
                · cases e
                  refine ⟨?_, rfl⟩
                  refine own_cell2 (g := g) hq1 rfl ?_
                  split
                  · exact hq2 u (by assumption)
                  · exact hq3 u (by omega) hu
              have hb49 : Below W4.heap.size W4 wz := (bseq HB6.out HB69.out).trans (gr_below hgr.gr (by omega))
              have HB49 := hide hb49
              have KRC := hide (KR.out wz hb49)
              have HOLDZ := hide (HOLD9.out.keep (fun g h1 h2 => hgr.gr.block h2 (by omega)))
              have hCA : Hid (∀ u, u < j → ∃ ga gb, ra = some ⟨ga, 0, none⟩ ∧ rb = some ⟨gb, 0, none⟩ ∧ wz.cell? ⟨ga, u * 2, none⟩ = some (.int .i64 1) ∧ wz.cell? ⟨gb, u * 2, none⟩ = some (.int .i64 2)) := fun u hu => by
                obtain ⟨ga, _, rfl, _⟩ := fr_cell HRA9.out HRL.out hu
                obtain ⟨gb, _, rfl, _⟩ := fr_cell HRB9.out HRL.out hu
                exact ⟨ga, gb, rfl, rfl, hgr.ca ga u rfl hu, hgr.cb gb u rfl hu⟩
              clear hgr hp1 hp2 hp3 hq1 hq2 hq3 hb49 HGRO KR
              have HN := hide hN
              clear hN
              go_wp2_with (fail)
              try go_frame
              go_loopw [19] (fun iv wu => ∃ u : Nat, iv = .int .i64 (u : Int) ∧ u ≤ N ∧ wu = wz) (fun iv _ => (N - (intOf iv).toNat))
              case atStart => exact ⟨0, rfl, Nat.zero_le _, rfl⟩
              case round =>
                obtain ⟨u, rfl, hu, hwu⟩ := hrel
                obtain rfl := hwu
                by_cases hult : u < N
                · have uI : (u : Int) < (N : Int) := by omega
                  obtain ⟨cp, epa⟩ := HCP.out u hult
                  obtain ⟨cq, eqa⟩ := HCQ.out u hult
                  generalize (pa.getD ⟨0, 0, none⟩).block = gp at cp epa
                  generalize (qa.getD ⟨0, 0, none⟩).block = gq at cq eqa
                  have ip : ∀ X, (Instr.indexAt 37 (.slice (some ⟨gp, 0, none⟩) N pc) (.int .i64 (u : Int))).run Try.prog X = .ok (.pointer (some ⟨gp, u * 2, none⟩)) X := fun X => index_recU gp u N pc hult X
                  have iq : ∀ X, (Instr.indexAt 37 (.slice (some ⟨gq, 0, none⟩) N qc) (.int .i64 (u : Int))).run Try.prog X = .ok (.pointer (some ⟨gq, u * 2, none⟩)) X := fun X => index_recU gq u N qc hult X
                  rw [epa, eqa]
                  by_cases huj : u < j
                  · rw [if_pos huj] at cp cq
                    have ujI : (u : Int) < (j : Int) := by omega
                    obtain ⟨ga, gb, era, erb, xa1, xb1⟩ := hCA.out u huj
                    have ia : ∀ X, (Instr.indexAt 37 (.slice (some ⟨ga, 0, none⟩) j rac) (.int .i64 (u : Int))).run Try.prog X = .ok (.pointer (some ⟨ga, u * 2, none⟩)) X := fun X => index_recU ga u j rac huj X
                    have ib : ∀ X, (Instr.indexAt 37 (.slice (some ⟨gb, 0, none⟩) j rbc) (.int .i64 (u : Int))).run Try.prog X = .ok (.pointer (some ⟨gb, u * 2, none⟩)) X := fun X => index_recU gb u j rbc huj X
                    have dge : decide ((j : Int) ≤ (u : Int)) = false := decide_eq_false (by omega)
                    rw [era, erb]
                    clear epa eqa era erb
                    go_wp2_with (fail)
                    go_roundw
                    case rel => exact ⟨u + 1, int_congrP (by omega), by omega, by first | rfl | trivial⟩
                    case measure => simp [intOf]; omega
                  · rw [if_neg huj] at cp cq
                    have ujI : ¬ (u : Int) < (j : Int) := by omega
                    have dlt : decide ((u : Int) < (j : Int)) = false := decide_eq_false (by omega)
                    have dge : (j : Int) ≤ (u : Int) := by omega
                    clear epa eqa
                    go_wp2_with (fail)
                    go_roundw
                    case rel => exact ⟨u + 1, int_congrP (by omega), by omega, by first | rfl | trivial⟩
                    case measure => simp [intOf]; omega
                · obtain rfl : u = N := by omega
                  have uI : ¬ (u : Int) < (u : Int) := by omega
                  go_upto_region 39 with (go_at_call 9; refine (KRC.out).mono ?_; rintro e WC ⟨vc, Rc, rfl, hrowc, hbc⟩; obtain ⟨rc, rcc, hvc, _⟩ := hrowc.shape; subst hvc; have HRC := hide (hrowc.rowR HRB.out); have HBC := hide hbc; clear hrowc hbc)
                  have KS3 := hide (HSM.out WC _ _ HRC.out ((KRW.out wr _ _ _ HOLDZ.out).below HBC.out))
                  go_wp2_with (go_at_call 11; refine (KS3.out).mono ?_; rintro e WD ⟨rfl, hbd⟩; have HBD := hide hbd; clear hbd)
                  go_ret
                  exact ⟨rfl, bseq HBW4.out (bseq (bseq HB49.out HBC.out) HBD.out)⟩
end Go.Proofs.Ytafmpdljljmddaa
namespace Go.Proofs.Ytafmpdljljmddaa
open Go.ChangeShapes Go.WideShapes Go.ChangeAt Go.RowKit
set_option linter.unusedVariables false

theorem own : ownKnob Try.prog.godebug = none := by kernel_rfl
theorem laidOut : laidOutB Try.prog = true := by kernel_rfl
theorem Try.bytes5 : Try.prog.bytesOf 5 = 1 := by kernel_rfl

/-- Numbers that fit a byte, as naturals. -/
theorem nats_of (zs : List Int) (h : ∀ n ∈ zs, (Lit.int .u8 n).wf = true) : ∃ bs : List Nat, zs = bs.map (fun (x : Nat) => (x : Int)) ∧ ∀ x ∈ bs, x < 256 := by
  refine ⟨zs.map Int.toNat, ?_, ?_⟩
  · rw [List.map_map]
    refine (List.map_id zs).symm.trans (List.map_congr_left fun z hz => ?_)
    have := bounds_u8 (h z hz)
    simp
    omega
  · intro x hx
    obtain ⟨z, hz, rfl⟩ := List.mem_map.1 hx
    have := bounds_u8 (h z hz)
    omega

theorem open_bytes {H : Type} {enc : TypeId × Value → H} {W : World} {a : Option Addr} {len cap : Nat} {d : DataW H} {p : List MemPlace} (h : DataW.Trod enc Try.prog W 0 (fun _ => true) true 33 (.slice a len cap) d p)
    (hz : ∀ el sp, d = .slice el sp → (el.length + sp.length) * Try.prog.bytesOf 5 ≤ reachBytes) : ∃ bs : List Nat, len = bs.length ∧ Sl W a bs ∧ bs.length ≤ 140737488351232 ∧ (a = none → cap = 0) ∧ len ≤ cap ∧ cap ≤ maxLen ∧ (d = .nil ∧ bs = [] ∨ ∃ el sp, d = .slice el sp ∧ el.length = bs.length) := by
  obtain ⟨fuel, hf⟩ := h
  rcases open_ints Try.underlying33 Try.underlying5 (by kernel_rfl) hf with ⟨hcs, _⟩ | ⟨x, l, c, zs, hcs, _, hl, hm, hzl, hx, hcell, hwz⟩
  · simp [Value.cells] at hcs
    obtain ⟨rfl, rfl, rfl⟩ := hcs
    rename_i hx0
    simp only [Prod.mk.injEq] at hx0
    exact ⟨[], rfl, .inl rfl, by simp, fun _ => rfl, Nat.le_refl _, Nat.zero_le _, .inl ⟨hx0.1, rfl⟩⟩
  · simp [Value.cells] at hcs
    obtain ⟨rfl, rfl, rfl⟩ := hcs
    simp only [Prod.mk.injEq] at hx
    obtain ⟨hd, _⟩ := hx
    have hw := hz _ _ hd
    obtain ⟨bs, rfl, hb⟩ := nats_of zs hwz
    simp only [if_true, List.length_map] at hzl
    rw [Try.bytes5] at hw
    simp only [lits, List.length_map, List.length_take, List.length_drop, reachBytes] at hw
    refine ⟨bs.take len, by rw [List.length_take]; omega, ?_, by rw [List.length_take]; omega, fun h => (by cases h), hl, hm, .inr ⟨_, _, hd, by simp [lits]⟩⟩
    by_cases h0 : len = 0
    · subst h0; exact .inl (by simp)
    · obtain ⟨b, off, spot⟩ := x
      have hc := hcell 0 (by simp; omega)
      have hspot : spot = none := by simpa [Addr.add] using World.cell?_spot hc
      subst hspot
      refine .inr ⟨b, off, rfl, ?_, fun i y hy => ?_⟩
      · exact World.block_lt_of_cell? _ _ hc
      · have hi : i < len := by
          have := (List.getElem?_eq_some_iff.1 hy).1
          rw [List.length_take] at this
          omega
        rw [List.getElem?_take, if_pos hi] at hy
        have h1 := hcell i (by simp; omega)
        refine ⟨?_, hb y (List.mem_of_getElem? hy)⟩
        have e : (⟨b, off, none⟩ : Addr).add i = ⟨b, off + i, none⟩ := by simp [Addr.add]
        rw [e] at h1
        rw [h1, List.getD_eq_getElem?_getD, List.getElem?_map, hy]
        rfl
theorem open_bytes_up {H : Type} {enc : TypeId × Value → H} {W : World} {a : Option Addr} {len cap : Nat} {d : DataW H} {p : List MemPlace} (h : DataW.Trod enc Try.prog W 0 (fun _ => true) true 33 (.slice a len cap) d p) : ∃ bs : List Nat, len = bs.length ∧ Sl W a bs ∧ bs.length ≤ maxLen ∧ (a = none → cap = 0) ∧ len ≤ cap ∧ cap ≤ maxLen ∧ (d = .nil ∧ bs = [] ∨ ∃ el sp, d = .slice el sp ∧ el.length = bs.length) := by
  obtain ⟨fuel, hf⟩ := h
  rcases open_ints Try.underlying33 Try.underlying5 (by kernel_rfl) hf with ⟨hcs, _⟩ | ⟨x, l, c, zs, hcs, _, hl, hm, hzl, hx, hcell, hwz⟩
  · simp [Value.cells] at hcs
    obtain ⟨rfl, rfl, rfl⟩ := hcs
    rename_i hx0
    simp only [Prod.mk.injEq] at hx0
    exact ⟨[], rfl, .inl rfl, by simp, fun _ => rfl, Nat.le_refl _, Nat.zero_le _, .inl ⟨hx0.1, rfl⟩⟩
  · simp [Value.cells] at hcs
    obtain ⟨rfl, rfl, rfl⟩ := hcs
    simp only [Prod.mk.injEq] at hx
    obtain ⟨hd, _⟩ := hx
    obtain ⟨bs, rfl, hb⟩ := nats_of zs hwz
    simp only [if_true, List.length_map] at hzl
    refine ⟨bs.take len, by rw [List.length_take]; omega, ?_, by rw [List.length_take]; omega, fun h => (by cases h), hl, hm, .inr ⟨_, _, hd, by simp [lits]⟩⟩
    by_cases h0 : len = 0
    · subst h0; exact .inl (by simp)
    · obtain ⟨b, off, spot⟩ := x
      have hc := hcell 0 (by simp; omega)
      have hspot : spot = none := by simpa [Addr.add] using World.cell?_spot hc
      subst hspot
      refine .inr ⟨b, off, rfl, ?_, fun i y hy => ?_⟩
      · exact World.block_lt_of_cell? _ _ hc
      · have hi : i < len := by
          have := (List.getElem?_eq_some_iff.1 hy).1
          rw [List.length_take] at this
          omega
        rw [List.getElem?_take, if_pos hi] at hy
        have h1 := hcell i (by simp; omega)
        refine ⟨?_, hb y (List.mem_of_getElem? hy)⟩
        have e : (⟨b, off, none⟩ : Addr).add i = ⟨b, off + i, none⟩ := by simp [Addr.add]
        rw [e] at h1
        rw [h1, List.getD_eq_getElem?_getD, List.getElem?_map, hy]
        rfl
theorem open_nums_up {H : Type} {enc : TypeId × Value → H} {W : World} {a : Option Addr} {len cap : Nat} {d : DataW H} {p : List MemPlace} (h : DataW.Trod enc Try.prog W 0 (fun _ => true) true 98 (.slice a len cap) d p) :
    ∃ zs : List Int, len = zs.length ∧ SlI W a zs ∧ (∀ z ∈ zs, -9223372036854775808 ≤ z ∧ z ≤ 9223372036854775807) ∧ (d = .nil ∧ zs = [] ∨ ∃ el sp, d = .slice el sp ∧ el.length = zs.length) := by
  obtain ⟨fuel, hf⟩ := h
  rcases open_ints Try.underlying98 Try.underlying3 (by kernel_rfl) hf with ⟨hcs, hx0⟩ | ⟨x, l, c, zs, hcs, _, hl, hm, hzl, hx, hcell, hwz⟩
  · simp [Value.cells] at hcs
    obtain ⟨rfl, rfl, rfl⟩ := hcs
    simp only [Prod.mk.injEq] at hx0
    exact ⟨[], rfl, .inl rfl, by simp, .inl ⟨hx0.1, rfl⟩⟩
  · simp [Value.cells] at hcs
    obtain ⟨rfl, rfl, rfl⟩ := hcs
    simp only [Prod.mk.injEq] at hx
    obtain ⟨hd, _⟩ := hx
    simp only [if_true] at hzl
    refine ⟨zs.take len, by rw [List.length_take]; omega, ?_, fun z hz => bounds_i64 (hwz z (List.mem_of_mem_take hz)), .inr ⟨_, _, hd, by simp [lits]⟩⟩
    by_cases h0 : len = 0
    · subst h0; exact .inl (by simp)
    · obtain ⟨b, off, spot⟩ := x
      have hc := hcell 0 (by omega)
      have hspot : spot = none := by simpa [Addr.add] using World.cell?_spot hc
      subst hspot
      refine .inr ⟨b, off, rfl, World.block_lt_of_cell? _ _ hc, fun i y hy => ?_⟩
      have hi : i < len := by
        have := (List.getElem?_eq_some_iff.1 hy).1
        rw [List.length_take] at this
        omega
      rw [List.getElem?_take, if_pos hi] at hy
      have h1 := hcell i (by omega)
      have e : (⟨b, off, none⟩ : Addr).add i = ⟨b, off + i, none⟩ := by simp [Addr.add]
      rw [e] at h1
      rw [h1, List.getD_eq_getElem?_getD, hy]
      rfl

theorem bulk_pos {H : Type} (d : DataW H) : 1 ≤ Rows.uptoBulk d := by
  cases d with
  | lit l => cases l <;> simp [Rows.uptoBulk]
  | _ => simp [Rows.uptoBulk]
theorem bulk_len {H : Type} (l : List (DataW H)) : l.length ≤ Rows.uptoBulkAll l := by
  induction l with
  | nil => simp [Rows.uptoBulkAll]
  | cons d r ih =>
    have := bulk_pos d
    simp only [Rows.uptoBulkAll, List.length_cons]
    omega
/-- What the bound says of bytes that came in. -/
theorem bulk_bytes {H : Type} {d : DataW H} {bs : List Nat} (h : d = .nil ∧ bs = [] ∨ ∃ el sp, d = .slice el sp ∧ el.length = bs.length) : bs.length ≤ Rows.uptoBulk d := by
  rcases h with ⟨_, rfl⟩ | ⟨el, sp, rfl, h⟩
  · simp
  · have := bulk_len el
    simp only [Rows.uptoBulk]
    omega
theorem bulk_nums {H : Type} {d : DataW H} {zs : List Int} (h : d = .nil ∧ zs = [] ∨ ∃ el sp, d = .slice el sp ∧ el.length = zs.length) : zs.length ≤ Rows.uptoBulk d := by
  rcases h with ⟨_, rfl⟩ | ⟨el, sp, rfl, h⟩
  · simp
  · have := bulk_len el
    simp only [Rows.uptoBulk]
    omega
theorem bulk_of {H : Type} {l : List (DataW H)} (h : Rows.uptoSmall H l = true) : Rows.uptoBulkAll l ≤ 1048576 := of_decide_eq_true h

end Go.Proofs.Ytafmpdljljmddaa
namespace Go.Proofs.Ytafmpdljljmddaa
open Go.ChangeShapes Go.WideShapes Go.ChangeAt Go.RowKit
set_option linter.unusedVariables false

theorem gatherQ {α : Type} {Q : Nat → α → Prop} : ∀ n, (∀ i, i < n → ∃ x, Q i x) → ∃ xs : List α, xs.length = n ∧ ∀ i x, xs[i]? = some x → Q i x := by
  intro n
  induction n with
  | zero => intro _; exact ⟨[], rfl, fun i x h => by simp at h⟩
  | succ n ih =>
    intro h
    obtain ⟨xs, hl, hq⟩ := ih (fun i hi => h i (by omega))
    obtain ⟨y, hy⟩ := h n (by omega)
    refine ⟨xs ++ [y], by rw [List.length_append, hl]; rfl, fun i x hx => ?_⟩
    by_cases hi : i < xs.length
    · rw [List.getElem?_append_left hi] at hx
      exact hq i x hx
    · rw [List.getElem?_append_right (by omega)] at hx
      have hlt := (List.getElem?_eq_some_iff.1 hx).1
      simp at hlt
      have e : i - xs.length = 0 := by omega
      rw [e] at hx
      simp at hx
      subst hx
      have : i = n := by omega
      subst this
      exact hy
/-- What a row of so many cells an element holds. -/
def RowW {α : Type} (sz : Nat) (vals : α → List Value) (W : World) (a : Option Addr) (xs : List α) : Prop :=
  xs = [] ∨ ∃ b off, a = some ⟨b, off, none⟩ ∧ b < W.heap.size ∧ ∀ i x, xs[i]? = some x → ∀ j v, (vals x)[j]? = some v → W.cell? ⟨b, off + i * sz + j, none⟩ = some v
theorem RowW.below {α : Type} {sz : Nat} {vals : α → List Value} {W W' : World} {a : Option Addr} {xs : List α} (h : RowW sz vals W a xs) (hB : Below W.heap.size W W') : RowW sz vals W' a xs := by
  rcases h with h | ⟨b, off, e, hb, hc⟩
  · exact .inl h
  · exact .inr ⟨b, off, e, Nat.lt_of_lt_of_le hb hB.size, fun i x hx j v hv => (hB.cell hb).trans (hc i x hx j v hv)⟩
theorem RowW.at {α : Type} {sz : Nat} {vals : α → List Value} {W : World} {a : Option Addr} {xs : List α} (h : RowW sz vals W a xs) {i : Nat} {x : α} (hx : xs[i]? = some x) : ∃ b off, a = some ⟨b, off, none⟩ ∧ b < W.heap.size ∧ ∀ j v, (vals x)[j]? = some v → W.cell? ⟨b, off + i * sz + j, none⟩ = some v := by
  rcases h with h | ⟨b, off, e, hb, hc⟩
  · rw [h] at hx; simp at hx
  · exact ⟨b, off, e, hb, hc i x hx⟩
theorem bulk_appR {H : Type} (l m : List (DataW H)) : Rows.uptoBulkAll (l ++ m) = Rows.uptoBulkAll l + Rows.uptoBulkAll m := by
  induction l with
  | nil => simp [Rows.uptoBulkAll]
  | cons d r ih => simp only [List.cons_append, Rows.uptoBulkAll, ih]; omega
theorem bulk_sumR {H α : Type} (f : α → Nat) (D : Nat → DataW H) (xs : List α) (h : ∀ i x, xs[i]? = some x → f x ≤ Rows.uptoBulk (D i)) : (xs.map f).sum ≤ Rows.uptoBulkAll ((List.range xs.length).map D) := by
  have key : ∀ n, n ≤ xs.length → ((xs.take n).map f).sum ≤ Rows.uptoBulkAll ((List.range n).map D) := by
    intro n
    induction n with
    | zero => intro _; simp
    | succ n ih =>
      intro hn
      have h1 := ih (by omega)
      have h2 := h n _ (List.getElem?_eq_getElem (by omega))
      rw [List.take_succ_eq_append_getElem (by omega), List.map_append, List.sum_append, List.range_succ, List.map_append, bulk_appR]
      simp only [List.map_cons, List.map_nil, List.sum_cons, List.sum_nil, Rows.uptoBulkAll]
      omega
  have := key xs.length (Nat.le_refl _)
  rw [List.take_length] at this
  exact this
set_option maxRecDepth 100000 in
theorem open_row {α H : Type} {enc : TypeId × Value → H} {W : World} {t e : TypeId} {sz fuel : Nat} (vals : α → List Value) (Q : α → DataW H → Prop) (f : α → Nat) (ht : Try.prog.underlying t = some (.slice e)) (hc : Try.prog.cellsOf e = sz) (hsz : 0 < sz) (hvl : ∀ x, (vals x).length = sz)
    (hel : ∀ fuel cs x, DataW.trod enc Try.prog W 0 (fun _ => true) true fuel e cs = some x → ∃ a, cs = vals a ∧ Q a x.1 ∧ f a ≤ Rows.uptoBulk x.1) {a : Option Addr} {len cap : Nat} {x : DataW H × List MemPlace} (h : DataW.trod enc Try.prog W 0 (fun _ => true) true fuel t [.slice a len cap] = some x) :
    ∃ xs : List α, len = xs.length ∧ RowW sz vals W a xs ∧ (∀ x ∈ xs, ∃ d, Q x d) ∧ (xs.map f).sum + 1 ≤ Rows.uptoBulk x.1 ∧ len ≤ cap ∧ cap ≤ maxLen ∧ (a = none → xs = [] ∧ cap = 0) := by
  rcases Go.Deep.open_slice ht h with ⟨hcs, hx0⟩ | ⟨ad, l, c, m, n, D, Pl, hcs, _, hl, hm, hmm, hx, hele⟩
  · simp at hcs
    obtain ⟨rfl, rfl, rfl⟩ := hcs
    subst hx0
    exact ⟨[], rfl, .inl rfl, by simp, by simp [Rows.uptoBulk], Nat.le_refl _, Nat.zero_le _, fun _ => ⟨rfl, rfl⟩⟩
  · simp at hcs
    obtain ⟨rfl, rfl, rfl⟩ := hcs
    have hlm : len ≤ m := by rw [hmm]; simp; exact hl
    rw [hc] at hele
    obtain ⟨xs, hxl, hxq⟩ := gatherQ (Q := fun i x => Q x (D i) ∧ f x ≤ Rows.uptoBulk (D i) ∧ W.cells? 0 (ad.add (i * sz)) sz = some (vals x)) len (fun i hi => by
      obtain ⟨cs', h1, h2⟩ := hele i (by omega)
      obtain ⟨y, rfl, hq, hk⟩ := hel _ _ _ h2
      exact ⟨y, hq, hk, h1⟩)
    refine ⟨xs, hxl.symm, ?_, ?_, ?_, hl, hm, fun h => by cases h⟩
    · by_cases h0 : len = 0
      · exact .inl (List.eq_nil_of_length_eq_zero (by omega))
      · obtain ⟨b, off, spot⟩ := ad
        obtain ⟨x0, hx0⟩ : ∃ x, xs[0]? = some x := ⟨_, List.getElem?_eq_getElem (by omega)⟩
        obtain ⟨v0, hv0⟩ : ∃ v, (vals x0)[0]? = some v := ⟨_, List.getElem?_eq_getElem (by rw [hvl]; exact hsz)⟩
        have hc0 : W.cell? ⟨b, off, spot⟩ = some v0 := by
          obtain ⟨_, _, hcc⟩ := World.cells?_some (hxq 0 x0 hx0).2.2
          have h1 := hcc 0 (by omega)
          have e : ((⟨b, off, spot⟩ : Addr).add (0 * sz)).add 0 = ⟨b, off, spot⟩ := by simp [Addr.add]
          rw [e, hv0] at h1
          exact h1
        have hspot : spot = none := by simpa using World.cell?_spot hc0
        subst hspot
        refine .inr ⟨b, off, rfl, World.block_lt_of_cell? _ _ hc0, fun i x hx j v hv => ?_⟩
        have hj : j < sz := by have := (List.getElem?_eq_some_iff.1 hv).1; rw [hvl] at this; exact this
        obtain ⟨_, _, hcc⟩ := World.cells?_some (hxq i x hx).2.2
        have h1 := hcc j hj
        rw [hv] at h1
        have e1 : (⟨b, off, none⟩ : Addr).add (i * sz) = ⟨b, off + i * sz, none⟩ := by simp [Addr.add]
        have e2 : (⟨b, off + i * sz, none⟩ : Addr).add j = ⟨b, off + i * sz + j, none⟩ := by simp [Addr.add]
        rw [e1, e2] at h1
        exact h1
    · intro y hy
      obtain ⟨i, hi⟩ := List.getElem?_of_mem hy
      exact ⟨_, (hxq i y hi).1⟩
    · have h1 := bulk_sumR f D xs (fun i x hi => (hxq i x hi).2.1)
      rw [hx, ← hxl]
      simp only [Rows.uptoBulk]
      omega
end Go.Proofs.Ytafmpdljljmddaa
namespace Go.Proofs.Ytafmpdljljmddaa
open Go.ChangeShapes Go.WideShapes Go.ChangeAt Go.RowKit
set_option linter.unusedVariables false
set_option maxRecDepth 100000

theorem ext_cells {H : Type} {enc : TypeId × Value → H} {W : World} {fuel : Nat} {cs : List Value} {x : DataW H × List MemPlace}
    (h : DataW.trod enc Try.prog W 0 (fun _ => true) true fuel 48 cs = some x) :
    ∃ (a : Int × Int), cs = [.int .i64 a.1, .int .i64 a.2] ∧ ((-9223372036854775808 ≤ a.1 ∧ a.1 ≤ 9223372036854775807) ∧ (-9223372036854775808 ≤ a.2 ∧ a.2 ≤ 9223372036854775807)) := by
  obtain ⟨xs, n, _, hx, hl, hlen, hf⟩ := DataW.trod_struct Try.underlying48 h
  rw [show Try.prog.cellsOf 48 = 2 by kernel_rfl] at hl
  match cs, hl with
  | [c0, c1], _ =>
    match xs, hlen with
    | [y0, y1], _ =>
      have h0 := hf 0 _ rfl
      have h1 := hf 1 _ rfl
      simp [show Try.prog.cellsOf 3 = 1 by kernel_rfl] at h0 h1
      obtain ⟨z0, e0, _, w0⟩ := DataW.trod_int Try.underlying3 h0
      obtain ⟨z1, e1, _, w1⟩ := DataW.trod_int Try.underlying3 h1
      simp at e0 e1
      subst e0 e1
      exact ⟨(z0, z1), rfl, bounds_i64 w0, bounds_i64 w1⟩
theorem slice_form {H : Type} {enc : TypeId × Value → H} {W : World} {fuel : Nat} {t e : TypeId} {v : Value} {x : DataW H × List MemPlace} (ht : Try.prog.underlying t = some (.slice e)) (h : DataW.trod enc Try.prog W 0 (fun _ => true) true fuel t [v] = some x) : ∃ a l c, v = .slice a l c := by
  rcases Go.Deep.open_slice ht h with ⟨hcs, _⟩ | ⟨ad, l, c, m, n, D, Pl, hcs, _⟩
  · simp at hcs; exact ⟨none, 0, 0, hcs⟩
  · simp at hcs; exact ⟨some ad, l, c, hcs⟩
theorem story_cells {H : Type} {enc : TypeId × Value → H} {W : World} {fuel : Nat} {cs : List Value} {x : DataW H × List MemPlace}
    (h : DataW.trod enc Try.prog W 0 (fun _ => true) true fuel 26 cs = some x) :
    ∃ (a a1 a2 : Option Addr) (m c m1 c1 m2 c2 : Nat) (lg : Bool) (xs : List (Int × Int)), cs = [.slice a m c, .slice a1 m1 c1, .slice a2 m2 c2, .bool lg] ∧ SlX W a xs ∧ xs.length = m := by
  obtain ⟨xs, n, _, hx, hl, hlen, hf⟩ := DataW.trod_struct Try.underlying26 h
  rw [show Try.prog.cellsOf 26 = 4 by kernel_rfl] at hl
  match cs, hl with
  | [v0, v1, v2, v3], _ =>
    match xs, hlen with
    | [y0, y1, y2, y3], _ =>
      have h0 := hf 0 _ rfl
      have h1 := hf 1 _ rfl
      have h2 := hf 2 _ rfl
      have h3 := hf 3 _ rfl
      simp [show Try.prog.cellsOf 22 = 1 by kernel_rfl, show Try.prog.cellsOf 23 = 1 by kernel_rfl, show Try.prog.cellsOf 24 = 1 by kernel_rfl, show Try.prog.cellsOf 4 = 1 by kernel_rfl] at h0 h1 h2 h3
      obtain ⟨a, m, c, rfl⟩ := slice_form Try.underlying22 h0
      obtain ⟨a1, m1, c1, rfl⟩ := slice_form Try.underlying23 h1
      obtain ⟨a2, m2, c2, rfl⟩ := slice_form Try.underlying24 h2
      obtain ⟨lg, e3, _⟩ := DataW.trod_bool Try.underlying4 h3
      simp at e3
      subst e3
      obtain ⟨es, hel, hrow, hq, _⟩ := open_row (fun (p : Int × Int) => [.int .i64 p.1, .int .i64 p.2]) (fun p (_ : DataW H) => (-9223372036854775808 ≤ p.1 ∧ p.1 ≤ 9223372036854775807) ∧ (-9223372036854775808 ≤ p.2 ∧ p.2 ≤ 9223372036854775807)) (fun _ => 0) Try.underlying22 (sz := 2) (by kernel_rfl) (by omega) (fun _ => rfl) (fun fuel cs x hh => by obtain ⟨p, e1, e2⟩ := ext_cells hh; exact ⟨p, e1, e2, Nat.zero_le _⟩) h0
      refine ⟨a, a1, a2, m, c, m1, c1, m2, c2, lg, es, rfl, ⟨fun x hx => by obtain ⟨d, hd⟩ := hq x hx; exact hd, ?_⟩, hel.symm⟩
      rcases hrow with h5 | ⟨g, o, e, hg, hc⟩
      · exact .inl h5
      · refine .inr ⟨g, o, e, hg, fun i x l hi => ⟨?_, ?_⟩⟩
        · have := hc i (x, l) hi 0 _ rfl
          simpa using this
        · exact hc i (x, l) hi 1 _ rfl
theorem open_story {H : Type} {enc : TypeId × Value → H} {W : World} {r : Reach} {b0 : Nat} {v : Value} {d : DataW H} {p : List MemPlace}
    (hv : Value.okWide Try.prog W r b0 26 v) (h : DataW.Trod enc Try.prog W 0 (fun _ => true) true 26 v d p) :
    ∃ (a a1 a2 : Option Addr) (m c m1 c1 m2 c2 : Nat) (lg : Bool) (xs : List (Int × Int)), v = .agg #[.slice a m c, .slice a1 m1 c1, .slice a2 m2 c2, .bool lg] ∧ SlX W a xs ∧ xs.length = m := by
  obtain ⟨cs, rfl, hsz⟩ := okWide_struct Try.underlying26 hv
  obtain ⟨fuel, hf⟩ := h
  obtain ⟨a, a1, a2, m, c, m1, c1, m2, c2, lg, xs, e5, hb⟩ := story_cells hf
  refine ⟨a, a1, a2, m, c, m1, c1, m2, c2, lg, xs, ?_, hb⟩
  have e' : cs.toList = [.slice a m c, .slice a1 m1 c1, .slice a2 m2 c2, .bool lg] := by simpa [Value.cells] using e5
  rw [← Array.toArray_toList (xs := cs), e']
end Go.Proofs.Ytafmpdljljmddaa
namespace Go.Proofs.Ytafmpdljljmddaa.ulogFresh
open Go.ChangeShapes Go.WideShapes Go.ChangeAt Go.RowKit Go.Proofs.Ytafmpdljljmddaa
set_option linter.unusedVariables false

set_option maxRecDepth 100000 in
theorem lifted (os : Os) (started : os.Started) (H : Type) (enc : TypeId × Value → H) :
    ReturnsInHanded {} Try.checked os 3 .any (Rows.ulogFreshSpec.pre6 enc Try.prog Try.f3 Rows.ulogFreshRow.domain false) (Rows.ulogFreshSpec.post enc Try.prog Try.f3 false true false false) := by
  refine returnsInHanded_of_change (C := Try.checked) own started (by kernel_rfl) Try.func3
    (ChangeSpec.witness6 (enc := enc) (C := Try.checked) false ⟨#[], #[.agg #[.slice none 0 0, .slice none 0 0, .slice none 0 0, .bool false]], []⟩ 8 (by kernel_rfl) (by kernel_rfl) (by kernel_rfl) (by kernel_rfl)) ?_
  intro W base args ds gs before hval0 hW hcnd _
  have hval : ∀ (j : Nat) t v, Try.f3.params[j]? = some t → args[j]? = some v → Value.okWide Try.prog W .any base t v := hval0
  have hW' := hW
  obtain ⟨p, q, hA0, hV, rfl, hfz, hnd⟩ := hW
  have hA : DataW.TrodAll enc Try.prog W 0 (fun _ => true) true Try.f3.params.toList args.toList ds p := hA0
  rw [Try.params3] at hA hval
  obtain ⟨v0, vs0, d0, ds0, p0, q0, hargs, rfl, rfl, h0, r0⟩ := trodAll_cons hA
  obtain ⟨rfl, rfl, rfl⟩ := trodAll_nil r0
  obtain rfl : args = #[v0] := by cases args; simp_all
  obtain ⟨rfl, rfl⟩ := trodVars_none hV
  have k0 := h0
  have lt0 : ∀ x ∈ p0, x.block < W.heap.size := by obtain ⟨m, hm⟩ := k0; exact DataW.trod_lt m _ _ _ hm
  obtain ⟨ea0, aa0, ab0, m0, c0, ma0, ca0, mb0, cb0, lg0, xs0, rfl, hx0, hl0⟩ := open_story (hval 0 26 v0 rfl rfl) h0
  clear hval0
  clear hA0
  refine (ulogFresh_walk W ea0 aa0 ab0 m0 c0 ma0 ca0 mb0 cb0 lg0 xs0 hx0 hl0).mono fun e W' ⟨he, bel⟩ => ?_
  subst he
  exact ⟨_, rfl, _, _, _, [], _, [], hW', trodAll_mk1 (shut_bool Try.underlying4 _), (trodAll_cons_mk (Below.trod laidOut (by kernel_rfl) (of_decide_eq_true (by kernel_rfl)) k0 bel lt0) trodAll_mk0), rfl, bel.frame _, fun h => by cases h⟩

theorem over : Rows.ulogFreshRow.holds Try.pinned (OpenSpec.ofChange Rows.ulogFreshSpec) :=
  OpenClaim.holds_of_wide 3 Try.f3 rfl rfl rfl rfl rfl rfl rfl ⟨rfl, rfl, rfl, rfl, rfl⟩ rfl rfl rfl rfl rfl (by kernel_rfl) Try.func3 (by kernel_rfl)
    (of_decide_eq_true (by kernel_rfl)) (by unfold Func.isWrapper; first | (rw [if_pos (by decide +kernel)]; kernel_rfl) | (rw [if_neg (by decide +kernel)]; exact ⟨rfl, rfl⟩))
    (fun os started H enc _ => lifted os started H enc)

end Go.Proofs.Ytafmpdljljmddaa.ulogFresh

namespace Go.Proofs.Ytafmpdljljmddaa
/-- UlogFresh, as it is stated. -/
theorem ulogFresh_holds : Rows.UlogFreshSaid := ulogFresh.over
#print axioms ulogFresh_holds
end Go.Proofs.Ytafmpdljljmddaa
