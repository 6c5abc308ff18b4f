/- Package seek: a run of a pattern: step. -/
import Derived.Test.YtodooppapciegaaGreatDoorXRunD
import Derived.Laws.EntriesVeiled
namespace Go.Proofs.YtodooppapciegaaGreatDoor
open Go.RowKit Go.Shelf
set_option linter.unusedVariables false
set_option linter.unusedSimpArgs false

theorem thr_at : ∀ (l : List (Nat × Nat)) (k : Nat) (t : Nat × Nat), l[k]? = some t → (thr l)[k * 2]? = some (.int .i64 (t.1 : Int)) ∧ (thr l)[k * 2 + 1]? = some (.int .i64 (t.2 : Int))
  | [], k, t, h => by simp at h
  | a :: l, 0, t, h => by
    obtain rfl : a = t := by simpa using h
    exact ⟨rfl, rfl⟩
  | a :: l, k + 1, t, h => by
    have k1 := thr_at l k t (by simpa using h)
    have e : thr (a :: l) = .int .i64 (a.1 : Int) :: .int .i64 (a.2 : Int) :: thr l := rfl
    rw [e, show (k + 1) * 2 = k * 2 + 1 + 1 by omega]
    exact ⟨by simpa using k1.1, by simpa using k1.2⟩
theorem row_cells {w : World} {B : Nat} {a : Option Addr} {q n : Nat} {l : List (Nat × Nat)} (h : w.ownsRow B 123 2 (.slice a n q) n (thr l)) {k : Nat} {t : Nat × Nat} (hk : l[k]? = some t) :
    ∃ g0, a = some ⟨g0, 0, none⟩ ∧ w.cell? ⟨g0, k * 2, none⟩ = some (.int .i64 (t.1 : Int)) ∧ w.cell? ⟨g0, k * 2 + 1, none⟩ = some (.int .i64 (t.2 : Int)) := by
  obtain ⟨c1, c2⟩ := thr_at l k t hk
  rcases h.2 with ⟨_, h0⟩ | ⟨g, cap, cur, e, _, hg, _, _, _, hc⟩
  · have h1 := h.1
    rw [h0, Nat.zero_mul] at h1
    rw [List.length_eq_zero_iff.1 h1] at c1
    simp at c1
  · cases e
    refine ⟨g, rfl, ?_, ?_⟩
    · rw [← hc, List.getElem?_take] at c1
      split at c1
      · simp only [World.cell?, hg]; simpa using c1
      · simp at c1
    · rw [← hc, List.getElem?_take] at c2
      split at c2
      · simp only [World.cell?, hg]; simpa using c2
      · simp at c2
theorem RunN.below {B : Nat} {D : Nat → Prop} {s : ByteArray} {g : Bool} {its : List Kd} {w w' : World} {b : Nat} {σ : Rs} {nv : Value} (h : RunN B D s g its w b σ nv) (hb : Below w.heap.size w w') : RunN B D s g its w' b σ nv := by
  obtain ⟨iv, xv, S, hc⟩ := h
  exact ⟨iv, xv, S, hc.below hb⟩
theorem own_len {w : World} {B n size : Nat} {e : TypeId} {v : Value} {xs : List Value} (h : w.ownsRow B e size v n xs) : n ≤ maxLen := by
  rcases h.2 with ⟨_, h0⟩ | ⟨g, cap, cur, _, _, _, h1, h2, _⟩
  · rw [h0]; exact Nat.zero_le _
  · exact Nat.le_trans h1 h2
theorem RunN.low {B : Nat} {D : Nat → Prop} {s : ByteArray} {g : Bool} {its : List Kd} {w : World} {b : Nat} {σ : Rs} {nv : Value} (h : RunN B D s g its w b σ nv) : B ≤ w.heap.size := by
  obtain ⟨iv, xv, S, hc⟩ := h
  exact Nat.le_trans hc.lb (Nat.le_of_lt hc.lt)
theorem ItemsV.at {D : Nat → Prop} {W : World} {a : Option Addr} {q n : Nat} {its : List Kd} (h : ItemsV D W (.slice a n q) its) {i : Nat} {x : Kd} (hx : its[i]? = some x) : ∃ g0 u, a = some ⟨g0, 0, none⟩ ∧ W.cell? ⟨g0, i * 2, none⟩ = some (.int .i64 (x.1 : Int)) ∧ W.cell? ⟨g0, i * 2 + 1, none⟩ = some u ∧ (2 ≤ x.1 → PartV D W u x.2) := by
  rcases h.2 with ⟨_, h2⟩ | ⟨g0, cap, hv, _, hcc⟩
  · rw [h2] at hx; simp at hx
  · cases hv
    obtain ⟨u, h1, h2, h3, _⟩ := hcc i x hx
    exact ⟨g0, u, rfl, h1, h2, h3⟩

theorem new2 (V : World) (t : TypeId) (a c : Value) : (V.alloc (.cells #[a, c] t)).drew.cell? ⟨V.heap.size, 0, none⟩ = some a ∧ (V.alloc (.cells #[a, c] t)).drew.cell? ⟨V.heap.size, 1, none⟩ = some c ∧ ∀ o, (V.alloc (.cells #[a, c] t)).drew.frozen? ⟨V.heap.size, o, none⟩ = false := by
  have z := heap_alloc_new V (.cells #[a, c] t)
  refine ⟨cel2 z 0 _ rfl, cel2 z 1 _ rfl, fun o => ?_⟩
  have z2 : (V.alloc (.cells #[a, c] t)).drew.heap[V.heap.size]? = some (.cells #[a, c] t) := z
  simp only [World.frozen?, z2]
  simp
set_option maxRecDepth 100000 in
set_option maxHeartbeats 2000000 in
theorem step_any (B : Nat) (D : Nat → Prop) (s : ByteArray) (g : Bool) (its : List Kd) (w : World) (b : Nat) (σ : Rs) (h : RunL B D s g its w b σ) (m : Nat) (ho : σ.Ok its m) (hl : its.length ≤ 65536) (c : Ch) :
    Calls Tryz.prog 44 #[.pointer (some ⟨b, 0, none⟩), chV c] w fun e w' => e = .returned (.tuple #[]) ∧ RunL B D s g its w' b (stepsF g its c σ.now σ) ∧ Kr B w w' := by
  obtain ⟨c0, c1⟩ := c
  obtain ⟨nv, hn⟩ := h
  have hBs := hn.low
  have hb : Below w.heap.size w (w.alloc (.cells #[.int .i32 c0, .bool c1] 71)) := (Below.refl _ w).alloc (Nat.le_refl _) _
  have hx := heap_alloc_new w (.cells #[.int .i32 c0, .bool c1] 71)
  have HX := hide hx
  have HN := hide (hn.below hb)
  have KB := hide (Kr.of_below hb hBs)
  obtain ⟨na, nq0, rfl⟩ : ∃ a q, nv = .slice a σ.now.length q := by obtain ⟨_, _, _, hc⟩ := hn; exact own_shape hc.now
  have c3 : (w.alloc (.cells #[.int .i32 c0, .bool c1] 71)).cell? ⟨b, 3, none⟩ = some (.slice na σ.now.length nq0) := by obtain ⟨_, _, _, hc⟩ := HN.out; exact hc.c3
  have hML : σ.now.length ≤ maxLen := by obtain ⟨_, _, _, hc⟩ := HN.out; exact own_len hc.now
  unfold maxLen at hML
  have HO := hide ho
  obtain ⟨τ, hτ⟩ : ∃ τ, τ = stepsF g its (c0, c1) σ.now σ := ⟨_, rfl⟩
  have HT := hide hτ
  rw [← hτ]
  obtain ⟨C, hC⟩ : ∃ C, C = w.heap.size := ⟨_, rfl⟩
  have HC := hide hC
  unfold chV
  simp only
  clear hn hb hx hBs ho hτ
  go_enter Tryz.func44, Tryz.ntmps44
  go_wp2_with (fail)
  rw [← hC] at HX ⊢
  clear hC
  generalize w.alloc (.cells #[.int .i32 c0, .bool c1] 71) = X at *
  go_loopw [12] (fun iv wr => ∃ (k : Nat) (ρ : Rs), iv = .int .i64 (k : Int) ∧ k ≤ σ.now.length ∧ ρ.Ok its m ∧ RunN B D s g its wr b ρ (.slice na σ.now.length nq0) ∧ Kr B X wr ∧ ρ = stepsF g its (c0, c1) (σ.now.take k) σ) (fun iv _ => σ.now.length - (intOf iv).toNat)
  case atStart => exact ⟨0, σ, rfl, Nat.zero_le _, HO.out, HN.out, Kr.refl _ _, rfl⟩
  case round =>
    obtain ⟨k, ρ, rfl, hk, ok, hr, hB, hF⟩ := hrel
    have OK := hide ok
    have HR := hide hr
    have BB := hide hB
    have HF := hide hF
    clear ok hr hB hF HN HO
    by_cases hlt : k < σ.now.length
    · have hltI : (k : Int) < (σ.now.length : Int) := by omega
      have hpn : ρ.now = σ.now := by rw [HF.out]; exact (stepsF_keeps _ _).1
      obtain ⟨t, ht⟩ : ∃ t, σ.now[k]? = some t := ⟨_, List.getElem?_eq_getElem hlt⟩
      have htm : t ∈ ρ.now := by rw [hpn]; exact List.mem_of_getElem? ht
      obtain ⟨⟨x, hx, hx2⟩, htm2⟩ := OK.out.thn t htm
      have hti : t.1 < its.length := (List.getElem?_eq_some_iff.1 hx).1
      have htI : (t.1 : Int) < (its.length : Int) := by omega
      obtain ⟨iv, xv, S, hc⟩ := HR.out
      obtain ⟨ia, iq, rfl⟩ := hc.items.shape
      have hnow := hc.now
      rw [hpn] at hnow
      obtain ⟨gN, rfl, n0, n1⟩ := row_cells hnow ht
      obtain ⟨g0, u, rfl, i0, i1, hu⟩ := hc.items.at hx
      obtain ⟨hD, f, lb, rfl, hen, hcl⟩ := hu hx2
      have r0 := hc.c0
      have CC : wr.heap[C]? = some (.cells #[.int .i32 c0, .bool c1] 71 (0, 0)) := (BB.out.2 C _ _ _ HX.out (by decide) (by decide) (by decide)).trans HX.out
      have HCC := hide CC
      have HCL := hide hcl
      have HPT := hide hx
      have HTM := hide htm2
      have HTK := hide ht
      clear CC hc hcl hx ht htm htm2 hnow hD
      have nT := heap_alloc_new wr (.cells #[.int .i64 (t.1 : Int), .int .i64 (t.2 : Int)] 123)
      have BT : Below wr.heap.size wr (wr.alloc (.cells #[.int .i64 (t.1 : Int), .int .i64 (t.2 : Int)] 123)) := (Below.refl _ _).alloc (Nat.le_refl _) _
      have sb : b < wr.heap.size := World.block_lt_of_cell? _ _ r0
      have sg : g0 < wr.heap.size := World.block_lt_of_cell? _ _ i0
      have HBT := hide BT
      have HNT := hide nT
      clear BT nT
      go_upto_region 4 with (fail)
      obtain ⟨T5, hT5⟩ : ∃ T, T = wr.heap.size := ⟨_, rfl⟩
      have R1 := hide (HR.out.below HBT.out)
      have K1 := hide (BB.out.trans (Kr.of_below HBT.out HR.out.low))
      have CC1 := hide ((HBT.out.block C (Array.getElem?_eq_some_iff.1 HCC.out).1).trans HCC.out)
      have q0 := (HBT.out.cell (p := ⟨b, 0, none⟩) sb).trans r0
      have j0 := (HBT.out.cell (p := ⟨g0, t.1 * 2, none⟩) sg).trans i0
      have j1 := (HBT.out.cell (p := ⟨g0, t.1 * 2 + 1, none⟩) sg).trans i1
      have KD1 : Hid (KeepD D wr (wr.alloc (.cells #[.int .i64 (t.1 : Int), .int .i64 (t.2 : Int)] 123))) := by
        obtain ⟨_, _, _, hc⟩ := HR.out
        exact .of_below HBT.out hc.items.1
      rw [← hT5] at HNT ⊢
      clear hT5 r0 i0 i1 n0 n1 sb sg HBT
      generalize wr.alloc (.cells #[.int .i64 (t.1 : Int), .int .i64 (t.2 : Int)] 123) = V at *
      have t0 := cel2 HNT.out 0 _ rfl
      have t1 := cel2 HNT.out 1 _ rfl
      have sb := World.block_lt_of_cell? _ _ q0
      have sg := World.block_lt_of_cell? _ _ j0
      have sT := World.block_lt_of_cell? _ _ t0
      simp only at sb sg sT
      have y0 := (new2 V 101 (.int .i64 0) .nilFunc).1
      have y1 := (new2 V 101 (.int .i64 0) .nilFunc).2.1
      have y2 := (new2 V 101 (.int .i64 0) .nilFunc).2.2
      have y3 := (new2 V 101 (.int .i64 (x.1 : Int)) .nilFunc).1
      have y4 := (new2 V 101 (.int .i64 (x.1 : Int)) .nilFunc).2.1
      have y5 := (new2 V 101 (.int .i64 (x.1 : Int)) .nilFunc).2.2
      go_region
      obtain ⟨I, hI⟩ : ∃ I, I = V.heap.size := ⟨_, rfl⟩
      have BI : Below V.heap.size V (V.alloc (.cells #[.int .i64 (x.1 : Int), .func (.func f) #[] lb] 101)).drew := ((Below.refl _ _).alloc (Nat.le_refl _) _).drew
      have nI : (V.alloc (.cells #[.int .i64 (x.1 : Int), .func (.func f) #[] lb] 101)).drew.heap[V.heap.size]? = some (.cells #[.int .i64 (x.1 : Int), .func (.func f) #[] lb] 101) := heap_alloc_new V _
      have R2 := hide (R1.out.below BI)
      have K2 := hide (K1.out.trans (Kr.of_below BI R1.out.low))
      have CC2 := (BI.block C (Array.getElem?_eq_some_iff.1 CC1.out).1).trans CC1.out
      have NT2 := (BI.block T5 (Array.getElem?_eq_some_iff.1 HNT.out).1).trans HNT.out
      have KD2 := hide (KD1.out.trans ⟨BI.size, fun k hk => BI.block k (Nat.lt_of_lt_of_le ((by obtain ⟨_, _, _, hc⟩ := HR.out; exact hc.items.1 k hk)) KD1.out.1)⟩)
      have ES : Hid (stepsF g its (c0, c1) (σ.now.take (k + 1)) σ = stepF g its (c0, c1) t ρ) := by
        show _ = _
        rw [List.take_add_one, HTK.out, Option.toList_some, stepsF_snoc, ← HF.out]
      have ET : Hid (stepF g its (c0, c1) t ρ = if (worseV g ρ t.2 || !x.2 (c0, c1)) = true then ρ else if x.1 = 4 then come its t.1 t.2 ρ else come its (t.1 + 1) t.2 ρ) := by
        show _ = _
        unfold stepF
        rw [HPT.out]
      clear t0 t1 y0 y1 y2 y3 y4 y5 q0 j0 j1 sb sg sT BI KD1 K1 R1 CC1 HNT HF
      rw [← hI] at nI ⊢
      clear hI
      generalize (V.alloc (.cells #[.int .i64 (x.1 : Int), .func (.func f) #[] lb] 101)).drew = Y at *
      have y0 := cel2 nI 0 _ rfl
      have y1 := cel2 nI 1 _ rfl
      have t0 := cel2 NT2 0 _ rfl
      have t1 := cel2 NT2 1 _ rfl
      have d0 := cel2 CC2 0 _ rfl
      have d1 := cel2 CC2 1 _ rfl
      have IS := hide (Array.getElem?_eq_some_iff.1 nI).1
      have TS := hide (Array.getElem?_eq_some_iff.1 NT2).1
      have kw := worse_any B D s g its Y b ρ ⟨_, R2.out⟩ t.2
      have kc := HCL.out Y KD2.out (c0, c1)
      unfold chV at kc
      simp only at kc
      clear nI CC2 NT2 HCL KD2
      cases hw : worseV g ρ t.2 with
      | true =>
        rw [hw] at kw
        have KW := hide kw
        clear kw kc
        go_wp2_with (first | (go_at_call 45; refine (KW.out).mono ?_; rintro e x1 ⟨rfl, rfl⟩))
        go_roundw
        case rel => exact ⟨k + 1, _, by go_num, by omega, OK.out, R2.out, K2.out, by rw [ES.out, ET.out, hw]; rfl⟩
        case measure => simp [intOf]; omega
      | false =>
        rw [hw] at kw
        have KW := hide kw
        clear kw
        cases hp : x.2 (c0, c1) with
        | false =>
          rw [hp] at kc
          have KC := hide kc
          clear kc
          go_wp2_with (first | (go_at_call 45; refine (KW.out).mono ?_; rintro e x1 ⟨rfl, rfl⟩) | (refine (KC.out).mono ?_; rintro e z ⟨rfl, hbz⟩; have RZ := hide (R2.out.below hbz); have KZ := hide (K2.out.trans (Kr.of_below hbz R2.out.low)); have CT := hide (hbz.block T5 TS.out); have CI := hide (hbz.block I IS.out); have k0 : z.cell? ⟨I, 0, none⟩ = some (.int .i64 (x.1 : Int)) := (World.cell?_of_block CI.out).trans y0; have u0 : z.cell? ⟨T5, 0, none⟩ = some (.int .i64 (t.1 : Int)) := (World.cell?_of_block CT.out).trans t0; have u1 : z.cell? ⟨T5, 1, none⟩ = some (.int .i64 (t.2 : Int)) := (World.cell?_of_block CT.out).trans t1; clear hbz KC))
          go_roundw
          case rel => exact ⟨k + 1, _, by go_num, by omega, OK.out, RZ.out, KZ.out, by rw [ES.out, ET.out, hw, hp]; rfl⟩
          case measure => simp [intOf]; omega
        | true =>
          rw [hp] at kc
          have KC := hide kc
          clear kc
          by_cases h4 : x.1 = 4
          · have h4I : (x.1 : Int) = 4 := by omega
            go_wp2_with (first | (go_at_call 45; refine (KW.out).mono ?_; rintro e x1 ⟨rfl, rfl⟩) | (refine (KC.out).mono ?_; rintro e z ⟨rfl, hbz⟩; have RZ := hide (R2.out.below hbz); have KZ := hide (K2.out.trans (Kr.of_below hbz R2.out.low)); have CT := hide (hbz.block T5 TS.out); have CI := hide (hbz.block I IS.out); have k0 : z.cell? ⟨I, 0, none⟩ = some (.int .i64 (x.1 : Int)) := (World.cell?_of_block CI.out).trans y0; have u0 : z.cell? ⟨T5, 0, none⟩ = some (.int .i64 (t.1 : Int)) := (World.cell?_of_block CT.out).trans t0; have u1 : z.cell? ⟨T5, 1, none⟩ = some (.int .i64 (t.2 : Int)) := (World.cell?_of_block CT.out).trans t1; clear hbz KC) | (go_at_call 59; refine (come_any B D s g its _ b ρ _ RZ.out m OK.out hl t.1 t.2 (Nat.le_of_lt hti) HTM.out).mono ?_; rintro e x2 ⟨rfl, hr2, hk2⟩; have R3 := hide hr2; have K3 := hide hk2; clear hr2 hk2))
            go_roundw
            case rel => exact ⟨k + 1, _, by go_num, by omega, comeF_ok HTM.out _ _ _ (Nat.le_of_lt hti) OK.out, R3.out, KZ.out.trans K3.out, by rw [ES.out, ET.out, hw, hp, if_pos h4]; rfl⟩
            case measure => simp [intOf]; omega
          · have h4I : (x.1 : Int) ≠ 4 := by omega
            have hw1 : IntKind.i64.wrap ((t.1 : Int) + 1) = ((t.1 + 1 : Nat) : Int) := by rw [IntKind.wrap_i64]; omega
            go_wp2_with (first | (go_at_call 45; refine (KW.out).mono ?_; rintro e x1 ⟨rfl, rfl⟩) | (refine (KC.out).mono ?_; rintro e z ⟨rfl, hbz⟩; have RZ := hide (R2.out.below hbz); have KZ := hide (K2.out.trans (Kr.of_below hbz R2.out.low)); have CT := hide (hbz.block T5 TS.out); have CI := hide (hbz.block I IS.out); have k0 : z.cell? ⟨I, 0, none⟩ = some (.int .i64 (x.1 : Int)) := (World.cell?_of_block CI.out).trans y0; have u0 : z.cell? ⟨T5, 0, none⟩ = some (.int .i64 (t.1 : Int)) := (World.cell?_of_block CT.out).trans t0; have u1 : z.cell? ⟨T5, 1, none⟩ = some (.int .i64 (t.2 : Int)) := (World.cell?_of_block CT.out).trans t1; clear hbz KC) | (go_at_call 59; refine (come_any B D s g its _ b ρ _ RZ.out m OK.out hl (t.1 + 1) t.2 hti HTM.out).mono ?_; rintro e x2 ⟨rfl, hr2, hk2⟩; have R3 := hide hr2; have K3 := hide hk2; clear hr2 hk2))
            go_roundw
            case rel => exact ⟨k + 1, _, by go_num, by omega, comeF_ok HTM.out _ _ _ hti OK.out, R3.out, KZ.out.trans K3.out, by rw [ES.out, ET.out, hw, hp, if_neg h4]; rfl⟩
            case measure => simp [intOf]; omega
    · obtain rfl : k = σ.now.length := by omega
      have hE : ρ = τ := by rw [HT.out, HF.out, List.take_length]
      go_wp2_with (fail)
      go_end0
      subst hE
      exact ⟨rfl, ⟨_, HR.out⟩, KB.out.trans BB.out⟩
end Go.Proofs.YtodooppapciegaaGreatDoor
