/- Package seek: what the iterator of the pieces tells. -/
import Derived.Test.YtodooppapciegaaGreatDoorXMatch
import Derived.Test.YtodooppapciegaaGreatDoorXPcsM
import Derived.Test.YtodooppapciegaaGreatDoorLSeq
import Derived.Sort.CutIn
namespace Go.Proofs.YtodooppapciegaaGreatDoor
open Go.RowKit Go.Shelf
set_option linter.unusedVariables false
set_option linter.unusedSimpArgs false
attribute [local go_sem] Oper.semAt_some

def encPc (x : Nat × Nat) : Array Value := #[.agg #[.int .i64 (x.1 : Int), .int .i64 (x.2 : Int)]]
theorem Sub.of_kr {H : TypeId → Prop} {B : Nat} {A C : World} (h : Kr B A C) (h1 : ¬ H 66) (h2 : ¬ H 3) (h3 : ¬ H 123) : Sub H B A C := by
  refine ⟨⟨h.1.os, h.1.tape, h.1.output, h.1.size⟩, fun k o hk hc => ?_⟩
  rcases hc with hc | ⟨c, t, fr, rfl, ht⟩
  · exact (h.1.block k hc).trans hk
  · exact (h.2 k c t fr hk (fun e => h1 (e ▸ ht)) (fun e => h2 (e ▸ ht)) (fun e => h3 (e ▸ ht))).trans hk
theorem Kp.blk {H : TypeId → Prop} {N : Nat → Prop} {B : Nat} {A C : World} (h : Kp H N B A C) {k : Nat} {cs : Array Value} {t : TypeId} {fr : Nat × Nat} (hk : A.heap[k]? = some (.cells cs t fr)) (hB : B ≤ k) (ht : ¬ H t) : C.heap[k]? = some (.cells cs t fr) :=
  h.2 k _ hk (.inr ⟨hB, fun ⟨c, t', fr', e, hh⟩ => by cases e; exact ht hh⟩)
theorem Kp.row {H : TypeId → Prop} {N : Nat → Prop} {B : Nat} {A C : World} (h : Kp H N B A C) {e : TypeId} {size n : Nat} {v : Value} {xs : List Value} (ho : A.ownsRow B e size v n xs) (ht : ¬ H e) : C.ownsRow B e size v n xs := by
  refine ⟨ho.1, ?_⟩
  rcases ho.2 with h1 | ⟨g, cap, cur, hv, hb, hg, r⟩
  · exact .inl h1
  · exact .inr ⟨g, cap, cur, hv, hb, h.blk hg hb ht, r⟩
theorem Kp.keepD {H : TypeId → Prop} {N D : Nat → Prop} {B : Nat} {A C : World} (h : Kp H N B A C) (hD : ∀ k, D k → N k) (hl : ∀ k, D k → k < A.heap.size) : KeepD D A C :=
  ⟨h.1.2.2.2, fun k hk => by
    rw [Array.getElem?_eq_getElem (hl k hk)]
    exact h.2 k _ (Array.getElem?_eq_getElem (hl k hk)) (.inl (hD k hk))⟩
theorem RunL.kp {B : Nat} {D : Nat → Prop} {s : ByteArray} {g : Bool} {its : List Kd} {w w' : World} {b : Nat} {σ : Rs} (h : RunL B D s g its w b σ) {H : TypeId → Prop} {N : Nat → Prop} (hk : Kp H N B w w') (hD : ∀ k, D k → N k) (h1 : ¬ H 66) (h2 : ¬ H 3) (h3 : ¬ H 123) : RunL B D s g its w' b σ := by
  obtain ⟨nv, iv, xv, S, hc⟩ := h
  exact ⟨nv, iv, xv, S, hk.blk hc.box hc.lb h1, hc.items.keep (hk.keepD hD hc.items.1), hk.row hc.now h3, hk.row hc.next h3, hc.apart, hk.blk hc.seen hc.lS h2, hc.lb, hc.lS, hc.ltD⟩
theorem RunL.below {B : Nat} {D : Nat → Prop} {s : ByteArray} {g : Bool} {its : List Kd} {w w' : World} {b : Nat} {σ : Rs} (h : RunL B D s g its w b σ) (hb : Below w.heap.size w w') : RunL B D s g its w' b σ := by
  obtain ⟨nv, hn⟩ := h
  exact ⟨nv, hn.below hb⟩
theorem RunL.low {B : Nat} {D : Nat → Prop} {s : ByteArray} {g : Bool} {its : List Kd} {w : World} {b : Nat} {σ : Rs} (h : RunL B D s g its w b σ) : B ≤ w.heap.size := by
  obtain ⟨nv, hn⟩ := h
  exact hn.low
theorem pcs_at {its : List Kd} {s : ByteArray} {k p : Nat} {σ τ : Rs} (hτ : τ = searchF false its (bl s) p (s.size : Int) σ) : pcsF its (bl s) (k + 1) p σ = if τ.fo then (τ.bf, τ.bt) :: (if τ.bf < τ.bt then pcsF its (bl s) k τ.bt τ else if cw1 ((bl s).drop τ.bt) = 0 then [] else pcsF its (bl s) k (τ.bt + cw1 ((bl s).drop τ.bt)) τ) else [] := by
  rw [hτ]
  conv => lhs; unfold pcsF
  rw [bl_len]
set_option maxRecDepth 100000 in
set_option maxHeartbeats 4000000 in
theorem pieces_x (H : TypeId → Prop) (N D : Nat → Prop) (its : List Kd) (txt : ByteArray) (Bp Bs Bf pb : Nat) (s : ByteArray) (f : Nat) (w : World) (hs : s.size ≤ 1000000000) (hf : f ≤ s.size) (hl : its.length ≤ 65536) (hN : ∀ k, N k → k < w.heap.size) (hpat : PatL D its txt w pb) (hNs : N Bs) (hD : ∀ k, D k → N k)
    (cp : w.cell? ⟨Bp, 0, none⟩ = some (.pointer (some ⟨pb, 0, none⟩))) (cs : w.cell? ⟨Bs, 0, none⟩ = some (.string s)) (cf : w.cell? ⟨Bf, 0, none⟩ = some (.int .i64 (f : Int)))
    (h1 : ¬ H 66) (h2 : ¬ H 3) (h3 : ¬ H 123) (h4 : ¬ H 36) :
    SeqX H N 37 #[.pointer (some ⟨Bp, 0, none⟩), .pointer (some ⟨Bs, 0, none⟩), .pointer (some ⟨Bf, 0, none⟩)] encPc (pcs its (bl s) f) w := fun l J Jx W hW hJ hJx hY h0 => by
  have cp' := (hW.cell (World.block_lt_of_cell? _ _ cp)).trans cp
  have cs' := (hW.cell (World.block_lt_of_cell? _ _ cs)).trans cs
  have cf' := (hW.cell (World.block_lt_of_cell? _ _ cf)).trans cf
  have hP := hpat.below hW
  have ko := inW (m := 1) (over_any D its txt s W pb hP hl)
  obtain ⟨xs, hxs⟩ : ∃ xs, xs = pcs its (bl s) f := ⟨_, rfl⟩
  rw [← hxs] at hY ⊢
  have HXS := hide hxs
  have HY := hide hY
  have KO := hide ko
  have HJ := hide hJ
  have H0 := hide h0
  clear hY ko hJ h0 hpat cp cs cf hxs
  refine callsIn_of_wp Tryz.func37 rfl trivial ?_ rfl
  simp only [Tryz.ntmps37, List.size_toArray, List.length_cons, List.length_nil, Nat.reduceAdd, Nat.reduceSub, Array.replicate_succ, Array.replicate_zero, List.push_toArray, List.append_toArray, List.nil_append, List.cons_append]
  gi_wp2_with (refine ⟨trivial, ?_⟩; gi_at_call 20; refine (KO.out).mono ?_; rintro e z ⟨b, rfl, hr, hb⟩; have HR := hide hr; have HB := hide hb; have cs1 := (hb.cell (World.block_lt_of_cell? _ _ cs')).trans cs'; have cf1 := (hb.cell (World.block_lt_of_cell? _ _ cf')).trans cf'; clear hr hb cs' cf' cp' KO)
  have hsI : (s.size : Int) ≤ 1000000000 := by omega
  gi_loopw [6] (fun iv wr => ∃ (p : Nat) (σ : Rs) (k : Nat) (pre : List (Nat × Nat)), iv = .int .i64 (p : Int) ∧ p ≤ s.size ∧ s.size + 1 - p ≤ k ∧ pre ++ pcsF its (bl s) k p σ = xs ∧ σ.seen.length = its.length + 1 ∧ σ.round ≤ (s.size + 1) * p ∧ RunL W.heap.size D s false its wr b σ ∧ wr.cell? ⟨Bs, 0, none⟩ = some (.string s) ∧ J pre wr) (fun iv _ => s.size + 1 - (intOf iv).toNat)
  case atStart => exact ⟨f, _, s.size + 1 - f, [], rfl, hf, Nat.le_refl _, by rw [HXS.out]; unfold pcs; rw [bl_len]; rfl, by simp [run0], Nat.zero_le _, HR.out, cs1, HJ.out _ _ _ H0.out (Sub.of_below HB.out)⟩
  case round =>
    obtain ⟨p, σ, k, pre, rfl, hp, hk, hpre, hsl, hrd, hrun, hcs, hj⟩ := hrel
    obtain ⟨k, rfl⟩ : ∃ j, k = j + 1 := ⟨k - 1, by omega⟩
    obtain ⟨τ, hτ⟩ : ∃ τ, τ = searchF false its (bl s) p (s.size : Int) σ := ⟨_, rfl⟩
    have hall := searchF_all (g := false) (its := its) (l := bl s) (t := (s.size : Int)) (f := p) (σ := σ) (by rw [bl_len]; exact hp) hsl
    rw [← hτ, bl_len] at hall
    have hrb : (s.size + 1) * p ≤ (s.size + 1) * s.size := Nat.mul_le_mul_left _ hp
    have hrc : (s.size + 1) * s.size ≤ 1000000001 * 1000000000 := Nat.mul_le_mul (by omega) hs
    have kse := inW (m := 1) (search_any W.heap.size D s false its wr b σ hrun hl hsl (by omega) (by omega) p hp (s.size : Int) (by omega))
    rw [← hτ] at kse
    rw [pcs_at hτ] at hpre
    have hlow := hrun.low
    have KSE := hide kse
    have HPRE := hide hpre
    have HALL := hide hall
    have HRD := hide hrd
    have HJ1 := hide hj
    have HLOW := hide hlow
    have HK := hide hk
    have HSL := hide hsl
    clear kse hpre hall hrd hj hlow hrun hτ hrb hrc cs1 cf1 HR HB H0 HXS hk hsl
    gi_upto_region 3 with (refine ⟨trivial, ?_⟩; gi_at_call 21; refine (KSE.out).mono ?_; rintro e z1 ⟨rfl, hr1, hk1⟩; have R1 := hide hr1; have J1 := hide (HJ.out _ _ _ HJ1.out (Sub.of_kr hk1 h1 h2 h3)); have cs2 := (hk1.1.cell (by have := HLOW.out; have := hN _ hNs; have := hW.size; show Bs < _; omega)).trans hcs; clear hr1 hk1 KSE hcs)
    have hb2 : Below z1.heap.size z1 (z1.alloc (.cells #[.int .i64 (τ.bf : Int), .int .i64 (τ.bt : Int)] 36)) := (Below.refl _ _).alloc (Nat.le_refl _) _
    have hx2 := heap_alloc_new z1 (.cells #[.int .i64 (τ.bf : Int), .int .i64 (τ.bt : Int)] 36)
    have J2 := hide (HJ.out _ _ _ J1.out (Sub.of_below hb2))
    have R2 := hide (R1.out.below hb2)
    have cs3 := (hb2.cell (World.block_lt_of_cell? _ _ cs2)).trans cs2
    obtain ⟨A, hA⟩ : ∃ A, A = z1.heap.size := ⟨_, rfl⟩
    have HAB : Hid (W.heap.size ≤ A) := by show _ ≤ _; rw [hA]; exact R1.out.low
    rw [← hA] at hx2 ⊢
    have HX2 := hide hx2
    clear hb2 hx2 hA J1 R1 cs2
    generalize z1.alloc (.cells #[.int .i64 (τ.bf : Int), .int .i64 (τ.bt : Int)] 36) = V at *
    have a0 := cel2 HX2.out 0 _ rfl
    have a1 := cel2 HX2.out 1 _ rfl
    obtain ⟨hok, hbf, hrn⟩ := HALL.out
    have hbt := hok.bt
    cases hfo : τ.fo with
    | false =>
      have hE := HPRE.out
      rw [hfo] at hE
      simp only [Bool.false_eq_true, if_false, List.append_nil] at hE
      have HE := hide hE
      clear hE HPRE
      gi_wp2
      refine ⟨fun f h => (by cases h), ?_⟩
      gi_wp2
      refine bodyPost_ret (results_none rfl _ _ _) rfl ?_
      exact ⟨⟨_, rfl⟩, .inl (by rw [← HE.out]; exact J2.out)⟩
    | true =>
      obtain ⟨hb1, hb2⟩ := hbf hfo
      have hE := HPRE.out
      rw [hfo] at hE
      simp only [if_true] at hE
      have HE := hide hE
      have hpx : pre ++ [(τ.bf, τ.bt)] <+: xs := ⟨(if τ.bf < τ.bt then pcsF its (bl s) k τ.bt τ else if cw1 ((bl s).drop τ.bt) = 0 then [] else pcsF its (bl s) k (τ.bt + cw1 ((bl s).drop τ.bt)) τ), by rw [← hE, List.append_assoc]; rfl⟩
      obtain ⟨fn, tmps, assign, body, hy, hR⟩ := HY.out pre (τ.bf, τ.bt) V J2.out hpx
      simp only [encPc] at hy
      have HRR := hide hR
      have HPX := hide hpx
      have HOK := hide hok.len
      have RD2 : Hid (τ.round ≤ (s.size + 1) * (p + 1)) := by
        show _ ≤ _
        have h1 := HRD.out
        rw [Nat.mul_succ]
        omega
      have hpre2 : ∀ r : List (Nat × Nat), pre ++ (τ.bf, τ.bt) :: r = (pre ++ [(τ.bf, τ.bt)]) ++ r := fun r => by simp
      rw [hpre2] at hE
      have HE := hide hE
      clear hR hpx hE hpre2 HPRE hok hbf hrn HALL J2
      gi_wp2
      refine HRR.out.mono ?_
      rintro e W3 (⟨rfl, hJ3, hK3⟩ | ⟨rfl, hJx3, hK3⟩)
      · have R3 := hide (R2.out.kp hK3 hD h1 h2 h3)
        have X3 := hide (hK3.blk HX2.out HAB.out h4)
        have cs4 : W3.cell? ⟨Bs, 0, none⟩ = some (.string s) := hK3.cell hNs cs3
        have J3 := hide hJ3
        have b0 := cel2 X3.out 0 _ rfl
        have b1 := cel2 X3.out 1 _ rfl
        clear hK3 hJ3 HRR hy cs3 a0 a1 R2 HX2
        by_cases hlt : τ.bf < τ.bt
        · have hltI : (τ.bf : Int) < (τ.bt : Int) := by omega
          have hE2 := HE.out
          rw [if_pos hlt] at hE2
          have HE2 := hide hE2
          clear hE2 HE
          gi_wp2
          go_roundw
          case rel => exact ⟨τ.bt, τ, k, _, rfl, hbt, by have := HK.out; omega, HE2.out, HOK.out, Nat.le_trans RD2.out (Nat.mul_le_mul_left _ (by omega)), R3.out, cs4, J3.out⟩
          case measure => simp [intOf]; omega
        · have hltI : ¬ (τ.bf : Int) < (τ.bt : Int) := by omega
          have heq : τ.bf = τ.bt := by omega
          have hE2 := HE.out
          rw [if_neg hlt] at hE2
          have he : bl (s.extract τ.bt s.size) = (bl s).drop τ.bt := by
            rw [bl_extract, List.take_of_length_le]
            rw [List.length_drop, bl_len]
            exact Nat.le_refl _
          have kf := inW (m := 1) (sfirst_any (s.extract τ.bt s.size) W3 (by rw [ByteArray.size_extract]; omega))
          rw [he] at kf
          obtain ⟨d, hd⟩ : ∃ d, d = ch1 ((bl s).drop τ.bt) := ⟨_, rfl⟩
          obtain ⟨m, hm⟩ : ∃ m, m = cw1 ((bl s).drop τ.bt) := ⟨_, rfl⟩
          have hm1 : τ.bt + m ≤ s.size := by
            rw [hm]
            unfold cw1
            split
            · exact hbt
            · rename_i h0
              have q1 := cw_len _ h0
              have q2 : 0 < ((bl s).drop τ.bt).length := List.length_pos_iff.2 h0
              rw [List.length_drop, bl_len] at q1 q2
              omega
          rw [← hd, ← hm] at kf
          rw [← hm] at hE2
          obtain ⟨d0, d1⟩ := d
          unfold chV at kf
          simp only at kf
          have KF := hide kf
          have HM1 := hide hm1
          have hbtI : (τ.bt : Int) ≤ (s.size : Int) := by omega
          clear kf he hd hm
          by_cases hm0 : m = 0
          · have hm0I : (m : Int) = 0 := by omega
            rw [if_pos hm0, List.append_nil] at hE2
            have HE2 := hide hE2
            clear hE2 HE
            gi_wp2_with (refine ⟨trivial, ?_⟩; gi_at_call 38; refine (KF.out).mono ?_; rintro e z4 ⟨rfl, hz⟩; have J4 := hide (HJ.out _ _ _ J3.out (Sub.of_below hz)); clear hz)
            refine bodyPost_ret (results_none rfl _ _ _) rfl ?_
            exact ⟨⟨_, rfl⟩, .inl (by rw [← HE2.out]; exact HJ.out _ _ _ J4.out (Sub.alloc _ _))⟩
          · have hm0I : (m : Int) ≠ 0 := by omega
            rw [if_neg hm0] at hE2
            have HE2 := hide hE2
            obtain ⟨P2, hP2⟩ : ∃ q, q = τ.bt + m := ⟨_, rfl⟩
            have w2 : IntKind.i64.wrap ((τ.bt : Int) + (m : Int)) = (P2 : Int) := by rw [IntKind.wrap_i64, hP2]; omega
            have HP2 := hide hP2
            clear hE2 HE hP2 hm1
            gi_wp2_with (refine ⟨trivial, ?_⟩; gi_at_call 38; refine (KF.out).mono ?_; rintro e z4 ⟨rfl, hz⟩; have J4 := hide (HJ.out _ _ _ J3.out (Sub.of_below hz)); have R4 := hide (R3.out.below hz); have cs5 := (hz.cell (World.block_lt_of_cell? _ _ cs4)).trans cs4; clear hz)
            go_roundw
            case rel => exact ⟨P2, τ, k, _, rfl, by rw [HP2.out]; exact HM1.out, by have := HK.out; have := HP2.out; omega, by rw [HP2.out]; exact HE2.out, HOK.out, Nat.le_trans RD2.out (Nat.mul_le_mul_left _ (by have := HP2.out; omega)), R4.out.below ((Below.refl _ _).alloc (Nat.le_refl _) _), ((((Below.refl _ z4).alloc (Nat.le_refl _) _).cell (World.block_lt_of_cell? _ _ cs5)).trans cs5), HJ.out _ _ _ J4.out (Sub.alloc _ _)⟩
            case measure =>
              have := HP2.out
              simp [intOf]
              omega
      · have J3 := hide hJx3
        clear hJx3 hK3 HRR hy
        gi_wp2
        refine bodyPost_ret (results_none rfl _ _ _) rfl ?_
        exact ⟨⟨_, rfl⟩, .inr ⟨_, HPX.out, J3.out⟩⟩
end Go.Proofs.YtodooppapciegaaGreatDoor
