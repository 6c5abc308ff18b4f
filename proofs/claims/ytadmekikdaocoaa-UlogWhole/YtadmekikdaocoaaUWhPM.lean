/- UlogWhole answers true for all stories, numbers of operations and lists of what lines keep: wherever the power goes while Write runs, the log holds no record behind it, or all of them, and no other byte was touched. -/
import Derived.Test.YtadmekikdaocoaaUhHM
import Derived.Deep.QuietTactic
import Derived.BigQuiet
import Derived.WalkSmall
import Derived.Test.YtadmekikdaocoaaOpenM
import Derived.ChangeSlices
import Derived.Deep.Slices
import Derived.Test.YtadmekikdaocoaaUgEM
namespace Go.Proofs.Ytadmekikdaocoaa
open Go.RowKit Go.Shelf
set_option linter.unusedVariables false
set_option maxRecDepth 100000

theorem lg_made2 {w W : World} {b gl z : Nat} {L : Lay} (hd : DevL W b L (fromD 16 (imgZ 8))) (hN : L.N = 0) (hf : ∀ k, Foot b L (fromD 16 (imgZ 8)) k → w.heap.size ≤ k) (hl : LogL W gl b 128 z) (hB : Below w.heap.size w W) : ∃ σ, Lg w.heap.size W gl b 128 z L σ ∧ σ.n = 16 ∧ σ.ops = 0 ∧ σ.bytes = imgZ 8 ∧ ∀ j, σ.past j = [] :=
  ⟨fromD 16 (imgZ 8), ⟨⟨hd, fromD_ok (by omega) (by omega) imgZ_len imgZ_lt, rfl, by rw [hN]; exact Nat.zero_le _, ⟨.inl rfl, by show 0 < _; omega⟩, Nat.le_refl _⟩, hl, rfl, hf, hB.size⟩, rfl, rfl, rfl, fun _ => rfl⟩
/-- What is kept of each line. -/
def ksR (ks : List Int) (i : Nat) : List Int := (ks.take i).map (fun x => x % 1000)
theorem ksR_succ {ks : List Int} {i : Nat} {x : Int} (h : ks[i]? = some x) : ksR ks (i + 1) = ksR ks i ++ [x % 1000] := by
  unfold ksR
  rw [List.take_add_one, h]
  simp
theorem ksR_mem {ks : List Int} {i : Nat} : ∀ z ∈ ksR ks i, 0 ≤ z ∧ z < 1000 := by
  intro z hz
  unfold ksR at hz
  obtain ⟨x, _, rfl⟩ := List.mem_map.1 hz
  omega
theorem ksR_len {ks : List Int} {i : Nat} (h : i ≤ ks.length) : (ksR ks i).length = i := by
  unfold ksR
  rw [List.length_map, List.length_take]
  omega
/-- The variable that is armed, and its row. -/
structure KpV (W : World) (ga : Nat) (av : Int) (kv : Value) (i : Nat) (zs : List Int) : Prop where
  var : W.heap[ga]? = some (.cells #[.int .i64 av, kv] 54 (0, 0))
  row : W.ownsRow (ga + 1) 3 1 kv i (zs.map (fun z => .int .i64 z))
theorem Stp.below {B0 b : Nat} {w w' : World} {L L' : Lay} {σ s : St} (hs : Stp w b L σ w' L' s) (hf : ∀ k, Foot b L σ k → B0 ≤ k) (hB : B0 ≤ w.heap.size) : Below B0 w w' :=
  ⟨hs.gr.1, hs.gr.2.1, hs.gr.2.2.1, hs.gr.size, fun i hi => hs.gr.block (by omega) (fun h => by have := hf i h; omega)⟩
theorem SlE.gr {w w' : World} {b : Nat} {L : Lay} {σ : St} {a : Option Addr} {xs : List (Int × Int)} (h : SlE w a xs) (hd : DevL w b L σ) (hg : Gr (Foot b L σ) w w') : SlE w' a xs :=
  ⟨h.1, h.2.imp id (fun ⟨g, o, c, h1, h2, h3⟩ => ⟨g, o, c, h1, hg.keep h2 (foot_nd hd h2 ext_nd), h3⟩)⟩
theorem own_gr {w w' : World} {b base n s : Nat} {L : Lay} {σ : St} {t : TypeId} {v : Value} {ys : List Value} (h : w.ownsRow base t s v n ys) (ht : NDt t) (hd : DevL w b L σ) (hg : Gr (Foot b L σ) w w') : w'.ownsRow base t s v n ys :=
  ownsRow_of_block h (fun g hgb => by obtain ⟨c, hc⟩ := own_type h hgb; exact hg.block (lt_of_heap hc) (foot_nd hd hc ht))
theorem slice_up8 (g e n cap : Nat) (he : e ≤ n) (hn : n ≤ cap) (hn1 : 1 ≤ n) (w : World) : (Instr.sliceAt 33 (.slice (some ⟨g, 0, none⟩) n cap) none (some (.int .i64 (e : Int))) none).run Try.prog w = .ok (.slice (some ⟨g, 0, none⟩) e cap) w := by
  obtain ⟨it, h1, h2⟩ := info_of (t := 5) (n := 1) (by kernel_rfl)
  have hu : Try.prog.underlying 33 = some (.slice 5) := by kernel_rfl
  have e3 : ¬ cap = 0 := by omega
  simp [Instr.sliceAt, Instr.slice, Sem.run_bind, run_underlying hu, Instr.sliceBounds, Instr.sliceBound, asIntOf, sizeOf, typeInfo, h1, Addr.add_mid, e3]
  intro hc
  omega
theorem sl_lo (g : Nat) (w : World) : (Instr.sliceAt 33 (.slice (some ⟨g, 0, none⟩) 1024 1024) none (some (.int .i64 128)) none).run Try.prog w = .ok (.slice (some ⟨g, 0, none⟩) 128 1024) w := by
  have h := slice_up8 g 128 1024 1024 (by omega) (by omega) (by omega) w
  rw [show ((128 : Nat) : Int) = 128 from rfl] at h
  exact h
theorem sl_hi (g : Nat) (w : World) : (Instr.sliceAt 33 (.slice (some ⟨g, 0, none⟩) 1024 1024) (some (.int .i64 512)) none none).run Try.prog w = .ok (.slice (some ⟨g, 512, none⟩) 512 512) w := by
  have h := slice_bytes g 0 512 1024 1024 (by omega) (by omega) w
  rw [show ((512 : Nat) : Int) = 512 from rfl, show 0 + 512 = 512 from rfl, show 1024 - 512 = 512 from rfl] at h
  exact h
/-- Two images, compared at both ends. -/
theorem eq_ends {W : World} {R2 R : Nat} {C : List Nat} (h2 : OwnB W R2 C) (h : OwnB W R (imgZ 8)) (hC : C.length = 1024) (hb : ∀ y ∈ C, y < 256) (lo : C.take 128 = (imgZ 8).take 128) (hi : C.drop 512 = (imgZ 8).drop 512) :
    (∀ X, Below W.heap.size W X → Calls Try.prog 22 #[.slice (some ⟨R2, 0, none⟩) 128 1024, .slice (some ⟨R, 0, none⟩) 128 1024] X fun e w' => e = .returned (.bool true) ∧ Below X.heap.size X w') ∧ (∀ X, Below W.heap.size W X → Calls Try.prog 22 #[.slice (some ⟨R2, 512, none⟩) 512 512, .slice (some ⟨R, 512, none⟩) 512 512] X fun e w' => e = .returned (.bool true) ∧ Below X.heap.size X w') := by
  have l1 : (C.take 128).length = 128 := by rw [List.length_take]; omega
  have l2 : ((imgZ 8).take 128).length = 128 := by rw [List.length_take, imgZ_len]; rfl
  have l3 : (C.drop 512).length = 512 := by rw [List.length_drop]; omega
  have l4 : ((imgZ 8).drop 512).length = 512 := by rw [List.length_drop, imgZ_len]
  have s1 : ∀ (W : World) (g : Nat) (B : List Nat), OwnB W g B → (∀ y ∈ B, y < 256) → Sl W (some ⟨g, 0, none⟩) (B.take 128) := fun W g B hO hB => .inr ⟨g, 0, rfl, hO.lt, fun i x hx => by
    rw [List.getElem?_take] at hx
    split at hx
    · rw [Nat.zero_add]
      exact ⟨hO.cell i x hx, hB x (List.mem_of_getElem? hx)⟩
    · cases hx⟩
  have s2 : ∀ (W : World) (g : Nat) (B : List Nat), OwnB W g B → (∀ y ∈ B, y < 256) → Sl W (some ⟨g, 512, none⟩) (B.drop 512) := fun W g B hO hB => .inr ⟨g, 512, rfl, hO.lt, fun i x hx => by
    rw [List.getElem?_drop] at hx
    exact ⟨hO.cell _ x hx, hB x (List.mem_of_getElem? hx)⟩⟩
  refine ⟨fun X hX => ?_, fun X hX => ?_⟩
  · have k := eqBytes_any (some ⟨R2, 0, none⟩) (some ⟨R, 0, none⟩) 1024 1024 (C.take 128) ((imgZ 8).take 128) X (s1 X R2 C (h2.below hX h2.lt) hb) (s1 X R _ (h.below hX h.lt) imgZ_lt) (by omega)
    rw [l1, l2, decide_eq_true lo] at k
    exact k.mono (fun e w' ⟨h5, n, h6⟩ => ⟨h5, by rw [h6]; exact below_drewN (Below.refl _ _) n⟩)
  · have k := eqBytes_any (some ⟨R2, 512, none⟩) (some ⟨R, 512, none⟩) 512 512 (C.drop 512) ((imgZ 8).drop 512) X (s2 X R2 C (h2.below hX h2.lt) hb) (s2 X R _ (h.below hX h.lt) imgZ_lt) (by omega)
    rw [l3, l4, decide_eq_true hi] at k
    exact k.mono (fun e w' ⟨h5, n, h6⟩ => ⟨h5, by rw [h6]; exact below_drewN (Below.refl _ _) n⟩)
set_option maxHeartbeats 8000000 in
theorem ulogWhole_walk (w : World) (ea a1 a2 ka : Option Addr) (m c m1 c1 m2 c2 kn kc : Nat) (lg : Bool) (xs : List (Int × Int)) (af : Int) (ks : List Int) (h : SlX w ea xs) (hm : xs.length = m) (haf : -9223372036854775808 ≤ af ∧ af ≤ 9223372036854775807) (hk : SlZ w ka ks) (hkl : ks.length = kn) (hkn : kn ≤ 17592186043904) :
    Calls Try.prog 4 #[.agg #[.slice ea m c, .slice a1 m1 c1, .slice a2 m2 c2, .bool lg], .int .i64 af, .slice ka kn kc] w fun e w' => e = .returned (.bool true) ∧ Below w.heap.size w w' := by
  obtain ⟨i1, hj0, hj1, hj2, hj3⟩ := infoNum
  have hA : Below w.heap.size w (w.alloc (.cells #[.slice ea m c, .slice a1 m1 c1, .slice a2 m2 c2, .bool lg] 26)) := (Below.refl _ w).alloc (Nat.le_refl _) _
  have hX := heap_alloc_new w (.cells #[.slice ea m c, .slice a1 m1 c1, .slice a2 m2 c2, .bool lg] 26)
  have HE := hide h
  have HM := hide hm
  have HKS := hide hk
  have HKL := hide hkl
  obtain ⟨av, hav⟩ : ∃ av : Nat, (av : Int) = 1 + af % 120 := ⟨(1 + af % 120).toNat, by omega⟩
  have hav1 : 1 ≤ av := by omega
  have KWA := hide (fun W => uwithin_any W af 120 (by omega) (by omega) haf.1 haf.2)
  obtain ⟨am, ham⟩ : ∃ am, af % 120 = am := ⟨_, rfl⟩
  rw [ham] at KWA hav
  have wav : IntKind.i64.wrap (1 + am) = (av : Int) := by rw [IntKind.wrap_i64]; omega
  clear h hm hk hkl hav ham
  go_enter Try.func4, Try.ntmps4
  go_upto_region 1 with (fail)
  generalize hXX : w.alloc (.cells #[.slice ea m c, .slice a1 m1 c1, .slice a2 m2 c2, .bool lg] 26) = X at *
  have hsX : w.heap.size < X.heap.size := lt_of_heap hX
  have HA := hide hA
  have HX := hide hX
  clear hA hX hXX
  go_upto_region 6 with (first
    | (go_at_call 5; refine (uawake_any _).mono ?_; rintro e W0 ⟨rfl, hb⟩; have HB0 := hide hb; have KM := hide (umade_any 384 W0 (by omega) (by omega) (by omega)); clear hb)
    | (go_at_call 6; refine (KM.out).mono ?_; rintro e W1 ⟨b, L, gl, rfl, hd, hN, hf, hl, hB⟩; obtain ⟨σ, hlg, hn, ho, hby, hpa⟩ := lg_made2 hd hN hf hl hB; have HL := hide hlg; have HP := hide (And.intro hn (And.intro ho (And.intro hby hpa))); have HB := hide hB; clear hd hN hf hl hlg hn ho hby hpa hB))
  clear KM
  have hXW := bseq HB0.out HB.out
  have hr4 := (hXW.block _ hsX).trans HX.out
  have q0 : W1.cell? ⟨w.heap.size, 0, none⟩ = some (.slice ea m c) := cell8 hr4 0
  have q1 : W1.cell? ⟨w.heap.size, 1, none⟩ = some (.slice a1 m1 c1) := cell8 hr4 1
  have q2 : W1.cell? ⟨w.heap.size, 2, none⟩ = some (.slice a2 m2 c2) := cell8 hr4 2
  have q3 : W1.cell? ⟨w.heap.size, 3, none⟩ = some (.bool lg) := cell8 hr4 3
  have HXW := hide (bseq HA.out hXW)
  have KB := hide (ubrought_any (ea := ea) (a1 := a1) (a2 := a2) (c := c) (m1 := m1) (c1 := c1) (m2 := m2) (c2 := c2) (lg := lg) (HE.out.below HXW.out) HM.out)
  have HR4 := hide hr4
  clear hXW hr4
  go_upto_region 8 with (first
    | (go_at_call 7; refine (KB.out).mono ?_; rintro e W2 ⟨v, rfl, k, hkm, hk5, hrow, hb2⟩; have HROW := hide hrow; have HB2 := hide hb2; have HL2 := hide (HL.out.below hb2); have kim := pimg_any HL2.out.dv.dev HL2.out.dv.ok; rw [HP.out.1, HP.out.2.2.1] at kim; have KIM := hide kim; clear hrow hb2 kim)
    | (go_at_call 8; refine (KIM.out).mono ?_; rintro e W3 ⟨rfl, hO3, hb3⟩; have HO3 := hide hO3; have HB3 := hide hb3; have HL3 := hide (HL2.out.below hb3); clear hO3 hb3))
  clear KB KIM q0 q1 q2 q3
  obtain ⟨R, hR⟩ : ∃ R, W2.heap.size = R := ⟨_, rfl⟩
  rw [hR] at HO3 ⊢
  have HROW3 := hide (own_below HROW.out HB3.out)
  have HB13 := hide (bseq HB2.out HB3.out)
  clear HROW
  go_upto_region 9 with (go_at_call 21; refine (KWA.out _).mono ?_; rintro e w' ⟨rfl, hw⟩; obtain rfl := hw.symm)
  have hA4 : Below W3.heap.size W3 (W3.alloc (.cells #[.int .i64 (av : Int), .slice none 0 0] 54)) := (Below.refl _ W3).alloc (Nat.le_refl _) _
  have hV4 := heap_alloc_new W3 (.cells #[.int .i64 (av : Int), .slice none 0 0] 54)
  obtain ⟨ga, hga⟩ : ∃ ga, W3.heap.size = ga := ⟨_, rfl⟩
  have hkv : KpV (W3.alloc (.cells #[.int .i64 (av : Int), .slice none 0 0] 54)) ga (av : Int) (.slice none 0 0) 0 (ksR ks 0) := by
    refine ⟨by rw [← hga]; exact hV4, ⟨rfl, .inl ⟨rfl, rfl⟩⟩⟩
  have HKV := hide hkv
  have HA4 := hide hA4
  have HGA := hide hga
  have hwga : w.heap.size ≤ ga := by
    have e1 := HXW.out.size
    have e2 := HB13.out.size
    omega
  rw [hga]
  clear hkv hA4 hV4 hga
  generalize (W3.alloc (.cells #[.int .i64 (av : Int), .slice none 0 0] 54)) = V4 at *
  go_wp2
  try go_frame
  go_loopw [13] (fun iv wr => ∃ (i : Nat) (kv : Value), iv = .int .i64 (i : Int) ∧ i ≤ kn ∧ KpV wr ga (av : Int) kv i (ksR ks i) ∧ Below W3.heap.size W3 wr) (fun iv _ => (kn - (intOf iv).toNat))
  case atStart => exact ⟨0, _, rfl, Nat.zero_le _, HKV.out, HA4.out⟩
  case round =>
    obtain ⟨i, kv, rfl, hik, hkp, hBr⟩ := hrel
    by_cases hlt : i < kn
    · have iI : (i : Int) < (kn : Int) := by omega
      obtain ⟨x, hx⟩ : ∃ x, ks[i]? = some x := ⟨_, List.getElem?_eq_getElem (by rw [HKL.out]; exact hlt)⟩
      have hxb := HKS.out.1 x (List.mem_of_getElem? hx)
      obtain ⟨kg, ko, rfl, hkg, hkc⟩ : ∃ g o, ka = some ⟨g, o, none⟩ ∧ g < w.heap.size ∧ ∀ (i : Nat) (z : Int), ks[i]? = some z → w.cell? ⟨g, o + i, none⟩ = some (.int .i64 z) := by
        rcases HKS.out.2 with e | e
        · rw [e] at hx; simp at hx
        · exact e
      have hww : Below w.heap.size w wr := bseq (bseq HXW.out HB13.out) hBr
      have hks := ksR_succ hx
      have hgl := lt_of_heap hkp.var
      have s0 : wr.drew.cell? ⟨ga, 1, none⟩ = some kv ∧ wr.drew.cell? ⟨kg, ko + i, none⟩ = some (.int .i64 x) := ⟨cell8 (w := wr.drew) hkp.var 1, (hww.cell (p := ⟨kg, ko + i, none⟩) hkg).trans (hkc i x hx)⟩
      have KWI := hide (fun W => uwithin_any W x 1000 (by omega) (by omega) hxb.1 hxb.2)
      obtain ⟨zv, hzv⟩ : ∃ zv, x % 1000 = zv := ⟨_, rfl⟩
      rw [hzv] at KWI hks
      have IX := hide (fun X => index_numU kg ko i kn kc hlt X)
      have hkgw : kg < wr.heap.size := Nat.lt_of_lt_of_le hkg hww.size
      have S0 := hide s0
      have HKP := hide hkp
      have HBR := hide hBr
      have HKZ := hide hks
      obtain ⟨la, lc, hkvs⟩ := own_slice hkp.row
      subst hkvs
      clear s0 hkp hBr hks hzv hkc hx hww
      go_wp2_with (fail)
      try go_frame
      refine wp_region_early 10 (fun X => X.cell? ⟨ga, 1, none⟩ = some (.slice la i lc) ∧ X.cell? ⟨kg, ko + i, none⟩ = some (.int .i64 x)) (by kernel_rfl) S0.out (fun hS => ?_)
      refine wpAnyE_take (i := 0) (v := (.pointer (some ⟨ga, 1, none⟩))) rfl (by kernel_rfl) (by kernel_rfl) (by kernel_rfl) (by kernel_rfl) (fun _ _ _ h => h) (Or.inl ⟨by kernel_rfl, fun w' hw => by (go_simp)⟩) hS ?_
      refine wpAnyE_take (i := 1) (v := (.slice la i lc)) rfl (by kernel_rfl) (by kernel_rfl) (by kernel_rfl) (by kernel_rfl) (fun _ _ _ h => h) (Or.inl ⟨by kernel_rfl, fun w' hw => by (have e0 := hw.1; go_simp)⟩) hS ?_
      refine wpAnyE_take (i := 2) (v := (.slice (some ⟨kg, ko, none⟩) kn kc)) rfl (by kernel_rfl) (by kernel_rfl) (by kernel_rfl) (by kernel_rfl) (fun _ _ _ h => h) (Or.inl ⟨by kernel_rfl, fun w' hw => by (go_simp)⟩) hS ?_
      refine wpAnyE_take (i := 3) (v := (.int .i64 (i : Int))) rfl (by kernel_rfl) (by kernel_rfl) (by kernel_rfl) (by kernel_rfl) (fun _ _ _ h => h) (Or.inl ⟨by kernel_rfl, fun w' hw => by (go_simp)⟩) hS ?_
      refine wpAnyE_take (i := 4) (v := (.pointer (some ⟨kg, ko + i, none⟩))) rfl (by kernel_rfl) (by kernel_rfl) (by kernel_rfl) (by kernel_rfl) (fun _ _ _ h => h) (Or.inl ⟨by kernel_rfl, fun w' hw => by (have e := IX.out w'; go_simp)⟩) hS ?_
      refine wpAnyE_take (i := 5) (v := (.int .i64 x)) rfl (by kernel_rfl) (by kernel_rfl) (by kernel_rfl) (by kernel_rfl) (fun _ _ _ h => h) (Or.inl ⟨by kernel_rfl, fun w' hw => by (have e0 := hw.2; go_simp)⟩) hS ?_
      refine wpAnyE_do (i := 6) (by kernel_rfl) rfl (by kernel_rfl) (fun K hK => ?_)
      go_wp2_with (go_at_call 21; refine (KWI.out _).mono ?_; rintro e w' ⟨rfl, hw⟩; obtain rfl := hw.symm)
      refine hK.out _ _ (fun _ => hS) ?_
      clear hK K
      have hA5 : Below wr.heap.size wr (wr.drew.alloc (.cells #[.int .i64 zv] 3)) := bseq (Below.refl _ wr).drew ((Below.refl _ wr.drew).alloc (Nat.le_refl _) _)
      refine wpAnyE_do (i := 7) (by kernel_rfl) rfl (by kernel_rfl) (fun K hK => ?_)
      go_wp2_with (fail)
      have hS5 : (wr.drew.alloc (.cells #[.int .i64 zv] 3)).cell? ⟨ga, 1, none⟩ = some (.slice la i lc) ∧ (wr.drew.alloc (.cells #[.int .i64 zv] 3)).cell? ⟨kg, ko + i, none⟩ = some (.int .i64 x) := ⟨(hA5.cell (p := ⟨ga, 1, none⟩) hgl).trans S0.out.1, (hA5.cell (p := ⟨kg, ko + i, none⟩) hkgw).trans S0.out.2⟩
      refine hK.out _ _ (fun _ => hS5) ?_
      clear hK K
      have HR5 := hide (own_below HKP.out.row hA5)
      have hv5 := row_keepU HKP.out.var hA5
      have hsz5 : ga + 1 ≤ (wr.drew.alloc (.cells #[.int .i64 zv] 3)).heap.size := by have := lt_of_heap hv5; omega
      refine wpAnyE_do (i := 8) (by kernel_rfl) rfl (by kernel_rfl) (fun K hK => ?_)
      refine wp_append_at (.tmp 42) (.tmp 48) 51 (by kernel_rfl) (ga + 1) 3 i1 (.int .i64 0) 1 8 Try.underlying51 hj0 hj1 hj2 hj3 rfl (by decide) (.slice la i lc) i ((ksR ks i).map (fun z => .int .i64 z)) (by kernel_rfl) HR5.out ⟨wr.heap.size, 0, none⟩ 1 1 [.int .i64 zv] (by kernel_rfl) rfl (cell_oneU wr.drew _ _) (by simp [Value.oneCell']) (by unfold maxLen; omega) (by omega) hsz5 ?_
      intro v4 x1 ho4 hg4 _ _
      obtain ⟨va, vc, rfl⟩ := own_slice ho4
      have hkga : x1.heap[ga]? = some (.cells #[.int .i64 (av : Int), .slice la i lc] 54 (0, 0)) := (hg4.block ga (lt_of_heap hv5) (fun e => by
        obtain ⟨c', hc'⟩ := own_type HR5.out e.symm
        exact ne_ty hv5 hc' (by decide) rfl)).trans hv5
      have hlow : ∀ k, k < ga → x1.heap[k]? = wr.heap[k]? := fun k hk => (hg4.block k (Nat.lt_of_lt_of_le (Nat.lt_succ_of_lt hk) hsz5) (fun e => by have h9 := (HR5.out.lt k e.symm).1; exact absurd h9 (by omega))).trans (hA5.block k (Nat.lt_trans hk hgl))
      have hS6 : x1.cell? ⟨ga, 1, none⟩ = some (.slice la i lc) ∧ x1.cell? ⟨kg, ko + i, none⟩ = some (.int .i64 x) := ⟨cell8 hkga 1, (World.cell?_of_block (a := ⟨kg, ko + i, none⟩) (hlow kg (by omega))).trans S0.out.2⟩
      have f6 := froz8 hkga 1
      refine hK.out _ _ (fun _ => hS6) ?_
      clear hK K
      refine wpAnyE_take (i := 9) (v := (.pointer (some ⟨ga, 1, none⟩))) rfl (by kernel_rfl) (by kernel_rfl) (by kernel_rfl) (by kernel_rfl) (fun _ _ _ h => h) (Or.inl ⟨by kernel_rfl, fun w' hw => by (go_simp)⟩) hS6 ?_
      have yk : KpV (x1.setCell ⟨ga, 1, none⟩ (.slice va (i + 1) vc)) ga (av : Int) (.slice va (i + 1) vc) (i + 1) (ksR ks (i + 1)) := by
        refine ⟨?_, ?_⟩
        · have := heap_setCell_same x1 ga 1 #[.int .i64 (av : Int), .slice la i lc] 54 (.slice va (i + 1) vc) hkga
          exact this
        · rw [HKZ.out, List.map_append]
          refine ownsRow_of_block ho4 (fun g hg => ?_)
          obtain ⟨cc, hcc⟩ := own_type ho4 hg
          exact heap_setCell_other x1 ⟨ga, 1, none⟩ g _ (fun e => by have e : g = ga := e; subst e; exact ne_ty hkga hcc (by decide) rfl)
      have yb : Below W3.heap.size W3 (x1.setCell ⟨ga, 1, none⟩ (.slice va (i + 1) vc)) := by
        have e9 := HGA.out
        have b1 : Below W3.heap.size W3 x1 := ⟨hg4.os.trans (hA5.os.trans HBR.out.os), hg4.tape.trans (hA5.tape.trans HBR.out.tape), hg4.output.trans (hA5.output.trans HBR.out.output), Nat.le_trans HBR.out.size (Nat.le_trans hA5.size hg4.size), fun k hk => (hlow k (by omega)).trans (HBR.out.block k hk)⟩
        exact b1.setCell (p := ⟨ga, 1, none⟩) (by show _ ≤ ga; omega) _
      have YK := hide yk
      have YB := hide yb
      clear yk yb hlow ho4 hg4
      refine wpAnyE_last (by kernel_rfl) rfl (by kernel_rfl) (by kernel_rfl) (fun K hK => ?_)
      go_wp2_with (fail)
      refine hK.out _ _ ?_
      clear hK K
      go_wp2_with (fail)
      go_roundw
      case rel => exact ⟨i + 1, _, int_congrP (by omega), by omega, YK.out, YB.out⟩
      case measure => simp [intOf]; omega
    · obtain rfl : i = kn := by omega
      have iI : ¬ (i : Int) < (i : Int) := by omega
      obtain ⟨la, lc, hkvs⟩ := own_slice hkp.row
      subst hkvs
      obtain ⟨va, vcp, hvs⟩ := own_slice HROW3.out
      subst hvs
      have c0 : wr.cell? ⟨ga, 0, none⟩ = some (.int .i64 (av : Int)) := cell8 hkp.var 0
      have c1 : wr.cell? ⟨ga, 1, none⟩ = some (.slice la i lc) := cell8 hkp.var 1
      have hzl := ksR_len (ks := ks) (i := i) (by rw [HKL.out]; exact Nat.le_refl _)
      have hzm := ksR_mem (ks := ks) (i := i)
      generalize ksR ks i = zs at *
      have hslz : SlZ wr la zs := by
        obtain ⟨la', lc', hq, hs⟩ := slz_of_row hkp.row hzl (fun z hz => by have := hzm z hz; omega)
        cases hq
        exact hs
      have hcn : (la = none → i = 0 ∧ lc = 0) ∧ i ≤ lc := by
        rcases hkp.row.2 with ⟨e, h0⟩ | ⟨g, cp, cur, e, _, _, h3, _⟩
        · cases e
          exact ⟨fun _ => ⟨rfl, rfl⟩, Nat.le_refl _⟩
        · cases e
          exact ⟨fun h => (by cases h), h3⟩
      have hlgw := HL3.out.below hBr
      have KA := hide (lw_arm hlgw hav1 hslz hzl hkn hcn.2 hcn.1 (fun z hz => (hzm z hz).1))
      have HDW := hide hlgw
      have HRW := hide (own_below HROW3.out hBr)
      have HOW := hide (HO3.out.below hBr HO3.out.lt)
      have HBWW := hide (bseq HB13.out hBr)
      have hkx : k ≤ xs.length := by rw [HM.out]; exact hkm
      clear hkp hslz hcn hlgw hBr hzl hzm HROW3 HO3
      go_upto_region 15 with (go_at_call 14; refine (KA.out).mono ?_; rintro e W5 ⟨rfl, L5, kp, hlw, hst⟩; have HLW := hide hlw; have HST := hide hst; clear hlw hst)
      clear KA c0 c1
      have hrow5 := own_gr HRW.out ext_nd HDW.out.dv.dev HST.out.gr
      have hO5 : OwnB W5 R (imgZ 8) := HST.out.gr.keep HOW.out (foot_nd HDW.out.dv.dev HOW.out byte_nd)
      have hb5 := HST.out.below HDW.out.far HDW.out.big
      have hbr : ∀ x ∈ brL xs k, (-9223372036854775808 ≤ x.1 ∧ x.1 ≤ 9223372036854775807) ∧ (-9223372036854775808 ≤ x.2 ∧ x.2 ≤ 9223372036854775807) := fun x hx => by
        have := brL_in x hx
        exact ⟨by omega, by omega⟩
      have hse5 : SlE W5 va (brL xs k) := by
        obtain ⟨a9, c9, hq, hs⟩ := sle_of_row (cap := 0) hrow5 (brL_len hkx) hbr
        cases hq
        exact hs
      have KE := hide (uext_any hrow5 (brL_len hkx) (by omega) hbr)
      have HSE5 := hide hse5
      have HO5 := hide hO5
      have HB5 := hide hb5
      clear hrow5 hO5 hb5 hse5 HRW HOW
      go_upto_region 16 with (first
        | (go_at_call 10; refine (KE.out).mono ?_; rintro e W6 ⟨v6, rfl, g6, cp6, rfl, hse6, hb6⟩; have HL6 := hide (HLW.out.below hb6); have KW := hide (lw_write (cap := cp6) (HLW.out.below hb6) HP.out.1 HP.out.2.1 HP.out.2.2.1 HP.out.2.2.2 hkx hk5 hse6); have HB6 := hide hb6; clear hse6 hb6)
        | (go_at_call 9; refine (KW.out).mono ?_; rintro e W7 ⟨cc, L7, s7, rfl, hbh⟩; have HBH := hide hbh; clear hbh))
      clear KE KW
      have hd6 := HL6.out.dv.dev
      have hO7 : OwnB W7 R (imgZ 8) := HBH.out.stp.gr.keep (HO5.out.below HB6.out HO5.out.lt) (foot_nd hd6 (HO5.out.below HB6.out HO5.out.lt) byte_nd)
      have hse7 : SlE W7 va (brL xs k) := (HSE5.out.below HB6.out).gr hd6 HBH.out.stp.gr
      have hb7 : Below w.heap.size w W7 := by
        have e1 : Below W0.heap.size wr W7 := HB5.out.trans (HB6.out.mono HLW.out.big |>.trans HBH.out.bel)
        exact bseq (bseq HA.out HB0.out) ((bseq HB.out HBWW.out).trans e1)
      have HO7 := hide hO7
      have HSE7 := hide hse7
      have HB7 := hide hb7
      clear hO7 hse7 hb7 hd6
      rcases HBH.out.code with ⟨rfl, hoff⟩ | ⟨rfl, hoff⟩
      · have ko := poff_any HBH.out.dev
        rw [hoff] at ko
        have KO := hide ko
        clear ko
        go_upto_region 20 with (go_at_call 17; refine (KO.out).mono ?_; rintro e w' ⟨rfl, hw⟩; obtain rfl := hw.symm)
        have HDR := hide (show Dr W7 b L7 s7 from ⟨HBH.out.dev, HBH.out.ok, hoff⟩)
        have HAF := hide (And.intro HBH.out.n HBH.out.aft)
        have HLX := hide HBH.out.log
        obtain ⟨WX, hWX⟩ : ∃ WX, W7 = WX := ⟨_, rfl⟩
        subst hWX
        obtain ⟨hn7, haf7⟩ := HAF.out
        obtain ⟨rs, hrs, hnum, hrecs⟩ := haf7.res
        have hrl : rs.length ≤ 4194304 := by
          rcases hrs with rfl | ⟨rfl, _⟩
          · rw [recL_len, brL_len hkx]; omega
          · simp
        have KR := hide (lrecords_r rs HLX.out HDR.out (by omega) (by omega) (by rw [hn7]; omega) hnum (by rw [hn7]; exact hrecs) hrl)
        have hrb : ∀ r ∈ rs, ∀ y ∈ r.2, y < 256 := fun r hr y hy => (RecsAt.each (N := 16) (by omega) (by omega) HDR.out.ok.byte rs 192 hrecs r hr).2.2 y hy
        have ki := fun W (hB : Below W7.heap.size W7 W) => pimg_any (HDR.out.dev.below hB) HDR.out.ok
        rw [hn7] at ki
        have KI := hide ki
        have hlen7 : s7.bytes.length = 1024 := by rw [HDR.out.ok.len, hn7]
        go_upto_region 22 with (first
          | (go_at_call 11; refine (KR.out).mono ?_; rintro e W8 ⟨v8, Rs, rfl, hrow8, hb8⟩; have HRR := hide (hrow8.rowR hrb); obtain ⟨ra, rc, rfl, _⟩ := hrow8.shape; have HB8 := hide hb8; clear hrow8 hb8)
          | (go_at_call 8; refine (KI.out _ HB8.out).mono ?_; rintro e W9 ⟨rfl, hO9, hb9⟩; have HO9 := hide hO9; have HB9 := hide hb9; clear hO9 hb9))
        have hX9 := bseq HB8.out HB9.out
        obtain ⟨R2, hR2⟩ : ∃ R2, W8.heap.size = R2 := ⟨_, rfl⟩
        rw [hR2] at HO9 ⊢
        have hOR : OwnB W9 R (imgZ 8) := HO7.out.below hX9 HO7.out.lt
        obtain ⟨ke1, ke2⟩ := eq_ends HO9.out hOR hlen7 HDR.out.ok.byte haf7.lo haf7.hi
        have KE1 := hide ke1
        have KE2 := hide ke2
        have HRR9 := hide (HRR.out.below HB9.out)
        have HB79 := hide (bseq HB7.out hX9)
        have HX9 := hide hX9
        have HOR := hide hOR
        have HHRS := hide hrs
        have hse9 := HSE7.out.below hX9
        have KOL := hide (fun W (hB : Below W9.heap.size W9 W) => uolds_any (c := vcp) (ic := 1024) (hOR.below hB hOR.lt) imgZ_len (by omega) imgZ_lt (hse9.below hB) (brL_len hkx) (by omega) (fun x hx => by have := brL_in x hx; omega))
        clear ke1 ke2 hX9 hOR hrs hnum hrecs hrb hse9 KR KI ki
        go_wp2_with (fail)
        try go_frame
        refine wp_region_held_drew (S := fun Y => Below W9.heap.size W9 Y) (by kernel_rfl) (Below.refl _ W9).drew (fun hS => ?_)
        refine wpAnyH_take (i := 0) (v := (.int .i64 0)) rfl (by kernel_rfl) (by kernel_rfl) (by kernel_rfl) (fun _ _ _ h => h) (Or.inl ⟨by kernel_rfl, fun w' hw => by (go_simp)⟩) hS ?_
        refine wpAnyH_take (i := 1) (v := (.bool false)) rfl (by kernel_rfl) (by kernel_rfl) (by kernel_rfl) (fun _ _ _ h => h) (Or.inl ⟨by kernel_rfl, fun w' hw => by (go_simp)⟩) hS ?_
        refine wpAnyH_take (i := 2) (v := (.bool false)) rfl (by kernel_rfl) (by kernel_rfl) (by kernel_rfl) (fun _ _ _ h => h) (Or.inl ⟨by kernel_rfl, fun w' hw => by (go_simp)⟩) hS ?_
        refine wpAnyH_take (i := 3) (v := (.slice (some ⟨R2, 0, none⟩) 1024 1024)) rfl (by kernel_rfl) (by kernel_rfl) (by kernel_rfl) (fun _ _ _ h => h) (Or.inl ⟨by kernel_rfl, fun w' hw => by (go_simp)⟩) hS ?_
        refine wpAnyH_take (i := 4) (v := (.int .i64 1024)) rfl (by kernel_rfl) (by kernel_rfl) (by kernel_rfl) (fun _ _ _ h => h) (Or.inl ⟨by kernel_rfl, fun w' hw => by (go_simp)⟩) hS ?_
        refine wpAnyH_take (i := 5) (v := (.bool false)) rfl (by kernel_rfl) (by kernel_rfl) (by kernel_rfl) (fun _ _ _ h => h) (Or.inl ⟨by kernel_rfl, fun w' hw => by (go_simp)⟩) hS ?_
        refine wpAnyH_take (i := 6) (v := (.bool false)) rfl (by kernel_rfl) (by kernel_rfl) (by kernel_rfl) (fun _ _ _ h => h) (Or.inl ⟨by kernel_rfl, fun w' hw => by (go_simp)⟩) hS ?_
        refine wpAnyH_take (i := 7) (v := (.bool false)) rfl (by kernel_rfl) (by kernel_rfl) (by kernel_rfl) (fun _ _ _ h => h) (Or.inl ⟨by kernel_rfl, fun w' hw => by (go_simp)⟩) hS ?_
        refine wpAnyH_take (i := 8) (v := (.slice (some ⟨R2, 0, none⟩) 1024 1024)) rfl (by kernel_rfl) (by kernel_rfl) (by kernel_rfl) (fun _ _ _ h => h) (Or.inl ⟨by kernel_rfl, fun w' hw => by (go_simp)⟩) hS ?_
        refine wpAnyH_take (i := 9) (v := (.slice (some ⟨R2, 0, none⟩) 128 1024)) rfl (by kernel_rfl) (by kernel_rfl) (by kernel_rfl) (fun _ _ _ h => h) (Or.inl ⟨by kernel_rfl, fun w' hw => by (have e := sl_lo R2 w'; go_simp)⟩) hS ?_
        refine wpAnyH_take (i := 10) (v := (.slice (some ⟨R, 0, none⟩) 1024 1024)) rfl (by kernel_rfl) (by kernel_rfl) (by kernel_rfl) (fun _ _ _ h => h) (Or.inl ⟨by kernel_rfl, fun w' hw => by (go_simp)⟩) hS ?_
        refine wpAnyH_take (i := 11) (v := (.slice (some ⟨R, 0, none⟩) 128 1024)) rfl (by kernel_rfl) (by kernel_rfl) (by kernel_rfl) (fun _ _ _ h => h) (Or.inl ⟨by kernel_rfl, fun w' hw => by (have e := sl_lo R w'; go_simp)⟩) hS ?_
        refine wpAnyH_goS (i := 12) (by kernel_rfl) rfl (by kernel_rfl) (fun K hK => ?_)
        go_wp2_with (go_at_call 22; refine (KE1.out _ hS).mono ?_; rintro e WE ⟨rfl, hb⟩; have HBE := hide (bseq hS hb); clear hb)
        have hS1 := (show Below W9.heap.size W9 WE from HBE.out)
        refine hK.out _ _ hS1 ?_
        clear hK K
        refine wpAnyH_take (i := 13) (v := (.bool false)) rfl (by kernel_rfl) (by kernel_rfl) (by kernel_rfl) (fun _ _ _ h => h) (Or.inl ⟨by kernel_rfl, fun w' hw => by (go_simp)⟩) hS1 ?_
        refine wpAnyH_take (i := 14) (v := (.bool false)) rfl (by kernel_rfl) (by kernel_rfl) (by kernel_rfl) (fun _ _ _ h => h) (Or.inl ⟨by kernel_rfl, fun w' hw => by (go_simp)⟩) hS1 ?_
        refine wpAnyH_take (i := 15) (v := (.bool false)) rfl (by kernel_rfl) (by kernel_rfl) (by kernel_rfl) (fun _ _ _ h => h) (Or.inl ⟨by kernel_rfl, fun w' hw => by (go_simp)⟩) hS1 ?_
        refine wpAnyH_take (i := 16) (v := (.slice (some ⟨R2, 0, none⟩) 1024 1024)) rfl (by kernel_rfl) (by kernel_rfl) (by kernel_rfl) (fun _ _ _ h => h) (Or.inl ⟨by kernel_rfl, fun w' hw => by (go_simp)⟩) hS1 ?_
        refine wpAnyH_take (i := 17) (v := (.slice (some ⟨R2, 512, none⟩) 512 512)) rfl (by kernel_rfl) (by kernel_rfl) (by kernel_rfl) (fun _ _ _ h => h) (Or.inl ⟨by kernel_rfl, fun w' hw => by (have e := sl_hi R2 w'; go_simp)⟩) hS1 ?_
        refine wpAnyH_take (i := 18) (v := (.slice (some ⟨R, 0, none⟩) 1024 1024)) rfl (by kernel_rfl) (by kernel_rfl) (by kernel_rfl) (fun _ _ _ h => h) (Or.inl ⟨by kernel_rfl, fun w' hw => by (go_simp)⟩) hS1 ?_
        refine wpAnyH_take (i := 19) (v := (.slice (some ⟨R, 512, none⟩) 512 512)) rfl (by kernel_rfl) (by kernel_rfl) (by kernel_rfl) (fun _ _ _ h => h) (Or.inl ⟨by kernel_rfl, fun w' hw => by (have e := sl_hi R w'; go_simp)⟩) hS1 ?_
        refine wpAnyH_goS (i := 20) (by kernel_rfl) rfl (by kernel_rfl) (fun K hK => ?_)
        go_wp2_with (go_at_call 22; refine (KE2.out _ hS1).mono ?_; rintro e WF ⟨rfl, hb⟩; have HBF := hide (bseq hS1 hb); clear hb)
        have hS2 := (show Below W9.heap.size W9 WF from HBF.out)
        refine hK.out _ _ hS2 ?_
        clear hK K
        refine wpAnyH_take (i := 21) (v := (.bool false)) rfl (by kernel_rfl) (by kernel_rfl) (by kernel_rfl) (fun _ _ _ h => h) (Or.inl ⟨by kernel_rfl, fun w' hw => by (go_simp)⟩) hS2 ?_
        refine wpAnyH_take (i := 22) (v := (.bool false)) rfl (by kernel_rfl) (by kernel_rfl) (by kernel_rfl) (fun _ _ _ h => h) (Or.inl ⟨by kernel_rfl, fun w' hw => by (go_simp)⟩) hS2 ?_
        refine wpAnyH_done (by kernel_rfl) ?_ _
        simp only [Act.put, List.getElem_toArray, List.getElem_cons_zero, List.getElem_cons_succ, List.setIfInBounds_toArray, List.set_cons_zero, List.set_cons_succ]
        by_cases hA7 : rs = recL (imgZ 8) (brL xs k)
        · have HA7 := hide hA7
          clear hA7 haf7 hlen7 hn7
          have hyl : ∀ r ∈ rs, r.2.length ≤ 4194304 := fun r hr => by
            rw [HA7.out] at hr
            unfold recL at hr
            obtain ⟨x, hx, rfl⟩ := List.mem_map.1 hr
            have h1 := brL_in x hx
            have h2 := fine_old (brL_fine x hx) imgZ_len
            show (oldOf (imgZ 8) x).length ≤ 4194304
            omega
          have HYL := hide hyl
          have KSM := hide (fun W u (h1 : RowR W (.slice ra rs.length rc) rs) (h2 : RowR W u (recL (imgZ 8) (brL xs k))) => usame_yes h1 (by rw [HA7.out]; exact h2) hrl hyl)
          clear hyl
          generalize recL (imgZ 8) (brL xs k) = rl at *
          go_wp2_with (first
            | (go_at_call 13; refine (KOL.out _ HBF.out).mono ?_; rintro e WA ⟨vA, rfl, hrA, hbA⟩; have HRA := hide hrA; have HBA := hide (bseq HBF.out hbA); clear hrA hbA)
            | (go_at_call 12; refine (KSM.out _ _ (HRR9.out.below HBA.out) HRA.out).mono ?_; rintro e WB ⟨rfl, hbB⟩; have HBB := hide hbB; clear hbB))
          go_ret
          exact ⟨rfl, bseq (bseq HB79.out HBA.out) HBB.out⟩
        · exact absurd (HHRS.out.resolve_left hA7).2 (by decide)
      · have ko := poff_any HBH.out.dev
        rw [hoff] at ko
        have KO := hide ko
        have KWK := hide (pwake_off HBH.out.dev hoff)
        clear ko
        go_upto_region 20 with (first
          | (go_at_call 17; refine (KO.out).mono ?_; rintro e w' ⟨rfl, hw⟩; obtain rfl := hw.symm)
          | (go_at_call 18; refine (KWK.out).mono ?_; rintro e WX ⟨rfl, hwx, hdx⟩; have HWX := hide hwx; have HDX := hide hdx; clear hwx hdx))
        have hgx : Gr (Foot b L7 s7) W7 WX := by rw [HWX.out]; exact Gr.set W7 b 7 _ (.inl rfl)
        have HDR := hide (show Dr WX b L7 { s7 with off := false } from ⟨HDX.out, ⟨HBH.out.ok.pos, HBH.out.ok.max, HBH.out.ok.len, HBH.out.ok.byte, HBH.out.ok.out, HBH.out.ok.clen, HBH.out.ok.cbyte, HBH.out.ok.few, HBH.out.ok.flp, HBH.out.ok.opsm⟩, rfl⟩)
        have HAF := hide (show ({ s7 with off := false } : St).n = 16 ∧ Aft (imgZ 8) (brL xs k) 5 ({ s7 with off := false } : St).bytes from And.intro HBH.out.n HBH.out.aft)
        have HLX := hide (hgx.keep HBH.out.log (foot_nd HBH.out.dev HBH.out.log log_nd))
        have hO8 : OwnB WX R (imgZ 8) := hgx.keep HO7.out (foot_nd HBH.out.dev HO7.out byte_nd)
        have hse8 := HSE7.out.gr HBH.out.dev hgx
        have hfar : ∀ j, Foot b L7 s7 j → W0.heap.size ≤ j := fun j hj => (HBH.out.stp.ft j hj).elim (HL6.out.far j) (fun h => Nat.le_trans HL6.out.big h)
        have hb8 : Below w.heap.size w WX := by
          have e1 : Below W0.heap.size W7 WX := (⟨hgx, fun j hj => .inl hj⟩ : Stp W7 b L7 s7 WX L7 s7).below hfar (Nat.le_trans HL6.out.big HBH.out.bel.size)
          exact HB7.out.trans ⟨e1.os, e1.tape, e1.output, e1.size, fun j hj => e1.block j (by have z1 := HA.out.size; have z2 := HB0.out.size; omega)⟩
        replace HO7 := hide hO8
        replace HSE7 := hide hse8
        replace HB7 := hide hb8
        clear hO8 hse8 hb8 hgx hfar
        generalize ({ s7 with off := false } : St) = t7 at *
        obtain ⟨hn7, haf7⟩ := HAF.out
        obtain ⟨rs, hrs, hnum, hrecs⟩ := haf7.res
        have hrl : rs.length ≤ 4194304 := by
          rcases hrs with rfl | ⟨rfl, _⟩
          · rw [recL_len, brL_len hkx]; omega
          · simp
        have KR := hide (lrecords_r rs HLX.out HDR.out (by omega) (by omega) (by rw [hn7]; omega) hnum (by rw [hn7]; exact hrecs) hrl)
        have hrb : ∀ r ∈ rs, ∀ y ∈ r.2, y < 256 := fun r hr y hy => (RecsAt.each (N := 16) (by omega) (by omega) HDR.out.ok.byte rs 192 hrecs r hr).2.2 y hy
        have ki := fun W (hB : Below WX.heap.size WX W) => pimg_any (HDR.out.dev.below hB) HDR.out.ok
        rw [hn7] at ki
        have KI := hide ki
        have hlen7 : t7.bytes.length = 1024 := by rw [HDR.out.ok.len, hn7]
        go_upto_region 22 with (first
          | (go_at_call 11; refine (KR.out).mono ?_; rintro e W8 ⟨v8, Rs, rfl, hrow8, hb8⟩; have HRR := hide (hrow8.rowR hrb); obtain ⟨ra, rc, rfl, _⟩ := hrow8.shape; have HB8 := hide hb8; clear hrow8 hb8)
          | (go_at_call 8; refine (KI.out _ HB8.out).mono ?_; rintro e W9 ⟨rfl, hO9, hb9⟩; have HO9 := hide hO9; have HB9 := hide hb9; clear hO9 hb9))
        have hX9 := bseq HB8.out HB9.out
        obtain ⟨R2, hR2⟩ : ∃ R2, W8.heap.size = R2 := ⟨_, rfl⟩
        rw [hR2] at HO9 ⊢
        have hOR : OwnB W9 R (imgZ 8) := HO7.out.below hX9 HO7.out.lt
        obtain ⟨ke1, ke2⟩ := eq_ends HO9.out hOR hlen7 HDR.out.ok.byte haf7.lo haf7.hi
        have KE1 := hide ke1
        have KE2 := hide ke2
        have HRR9 := hide (HRR.out.below HB9.out)
        have HB79 := hide (bseq HB7.out hX9)
        have HX9 := hide hX9
        have HOR := hide hOR
        have HHRS := hide hrs
        have hse9 := HSE7.out.below hX9
        have KOL := hide (fun W (hB : Below W9.heap.size W9 W) => uolds_any (c := vcp) (ic := 1024) (hOR.below hB hOR.lt) imgZ_len (by omega) imgZ_lt (hse9.below hB) (brL_len hkx) (by omega) (fun x hx => by have := brL_in x hx; omega))
        clear ke1 ke2 hX9 hOR hrs hnum hrecs hrb hse9 KR KI ki
        go_wp2_with (fail)
        try go_frame
        refine wp_region_held_drew (S := fun Y => Below W9.heap.size W9 Y) (by kernel_rfl) (Below.refl _ W9).drew (fun hS => ?_)
        refine wpAnyH_take (i := 0) (v := (.int .i64 0)) rfl (by kernel_rfl) (by kernel_rfl) (by kernel_rfl) (fun _ _ _ h => h) (Or.inl ⟨by kernel_rfl, fun w' hw => by (go_simp)⟩) hS ?_
        refine wpAnyH_take (i := 1) (v := (.bool false)) rfl (by kernel_rfl) (by kernel_rfl) (by kernel_rfl) (fun _ _ _ h => h) (Or.inl ⟨by kernel_rfl, fun w' hw => by (go_simp)⟩) hS ?_
        refine wpAnyH_take (i := 2) (v := (.bool false)) rfl (by kernel_rfl) (by kernel_rfl) (by kernel_rfl) (fun _ _ _ h => h) (Or.inl ⟨by kernel_rfl, fun w' hw => by (go_simp)⟩) hS ?_
        refine wpAnyH_take (i := 3) (v := (.slice (some ⟨R2, 0, none⟩) 1024 1024)) rfl (by kernel_rfl) (by kernel_rfl) (by kernel_rfl) (fun _ _ _ h => h) (Or.inl ⟨by kernel_rfl, fun w' hw => by (go_simp)⟩) hS ?_
        refine wpAnyH_take (i := 4) (v := (.int .i64 1024)) rfl (by kernel_rfl) (by kernel_rfl) (by kernel_rfl) (fun _ _ _ h => h) (Or.inl ⟨by kernel_rfl, fun w' hw => by (go_simp)⟩) hS ?_
        refine wpAnyH_take (i := 5) (v := (.bool false)) rfl (by kernel_rfl) (by kernel_rfl) (by kernel_rfl) (fun _ _ _ h => h) (Or.inl ⟨by kernel_rfl, fun w' hw => by (go_simp)⟩) hS ?_
        refine wpAnyH_take (i := 6) (v := (.bool false)) rfl (by kernel_rfl) (by kernel_rfl) (by kernel_rfl) (fun _ _ _ h => h) (Or.inl ⟨by kernel_rfl, fun w' hw => by (go_simp)⟩) hS ?_
        refine wpAnyH_take (i := 7) (v := (.bool false)) rfl (by kernel_rfl) (by kernel_rfl) (by kernel_rfl) (fun _ _ _ h => h) (Or.inl ⟨by kernel_rfl, fun w' hw => by (go_simp)⟩) hS ?_
        refine wpAnyH_take (i := 8) (v := (.slice (some ⟨R2, 0, none⟩) 1024 1024)) rfl (by kernel_rfl) (by kernel_rfl) (by kernel_rfl) (fun _ _ _ h => h) (Or.inl ⟨by kernel_rfl, fun w' hw => by (go_simp)⟩) hS ?_
        refine wpAnyH_take (i := 9) (v := (.slice (some ⟨R2, 0, none⟩) 128 1024)) rfl (by kernel_rfl) (by kernel_rfl) (by kernel_rfl) (fun _ _ _ h => h) (Or.inl ⟨by kernel_rfl, fun w' hw => by (have e := sl_lo R2 w'; go_simp)⟩) hS ?_
        refine wpAnyH_take (i := 10) (v := (.slice (some ⟨R, 0, none⟩) 1024 1024)) rfl (by kernel_rfl) (by kernel_rfl) (by kernel_rfl) (fun _ _ _ h => h) (Or.inl ⟨by kernel_rfl, fun w' hw => by (go_simp)⟩) hS ?_
        refine wpAnyH_take (i := 11) (v := (.slice (some ⟨R, 0, none⟩) 128 1024)) rfl (by kernel_rfl) (by kernel_rfl) (by kernel_rfl) (fun _ _ _ h => h) (Or.inl ⟨by kernel_rfl, fun w' hw => by (have e := sl_lo R w'; go_simp)⟩) hS ?_
        refine wpAnyH_goS (i := 12) (by kernel_rfl) rfl (by kernel_rfl) (fun K hK => ?_)
        go_wp2_with (go_at_call 22; refine (KE1.out _ hS).mono ?_; rintro e WE ⟨rfl, hb⟩; have HBE := hide (bseq hS hb); clear hb)
        have hS1 := (show Below W9.heap.size W9 WE from HBE.out)
        refine hK.out _ _ hS1 ?_
        clear hK K
        refine wpAnyH_take (i := 13) (v := (.bool false)) rfl (by kernel_rfl) (by kernel_rfl) (by kernel_rfl) (fun _ _ _ h => h) (Or.inl ⟨by kernel_rfl, fun w' hw => by (go_simp)⟩) hS1 ?_
        refine wpAnyH_take (i := 14) (v := (.bool false)) rfl (by kernel_rfl) (by kernel_rfl) (by kernel_rfl) (fun _ _ _ h => h) (Or.inl ⟨by kernel_rfl, fun w' hw => by (go_simp)⟩) hS1 ?_
        refine wpAnyH_take (i := 15) (v := (.bool false)) rfl (by kernel_rfl) (by kernel_rfl) (by kernel_rfl) (fun _ _ _ h => h) (Or.inl ⟨by kernel_rfl, fun w' hw => by (go_simp)⟩) hS1 ?_
        refine wpAnyH_take (i := 16) (v := (.slice (some ⟨R2, 0, none⟩) 1024 1024)) rfl (by kernel_rfl) (by kernel_rfl) (by kernel_rfl) (fun _ _ _ h => h) (Or.inl ⟨by kernel_rfl, fun w' hw => by (go_simp)⟩) hS1 ?_
        refine wpAnyH_take (i := 17) (v := (.slice (some ⟨R2, 512, none⟩) 512 512)) rfl (by kernel_rfl) (by kernel_rfl) (by kernel_rfl) (fun _ _ _ h => h) (Or.inl ⟨by kernel_rfl, fun w' hw => by (have e := sl_hi R2 w'; go_simp)⟩) hS1 ?_
        refine wpAnyH_take (i := 18) (v := (.slice (some ⟨R, 0, none⟩) 1024 1024)) rfl (by kernel_rfl) (by kernel_rfl) (by kernel_rfl) (fun _ _ _ h => h) (Or.inl ⟨by kernel_rfl, fun w' hw => by (go_simp)⟩) hS1 ?_
        refine wpAnyH_take (i := 19) (v := (.slice (some ⟨R, 512, none⟩) 512 512)) rfl (by kernel_rfl) (by kernel_rfl) (by kernel_rfl) (fun _ _ _ h => h) (Or.inl ⟨by kernel_rfl, fun w' hw => by (have e := sl_hi R w'; go_simp)⟩) hS1 ?_
        refine wpAnyH_goS (i := 20) (by kernel_rfl) rfl (by kernel_rfl) (fun K hK => ?_)
        go_wp2_with (go_at_call 22; refine (KE2.out _ hS1).mono ?_; rintro e WF ⟨rfl, hb⟩; have HBF := hide (bseq hS1 hb); clear hb)
        have hS2 := (show Below W9.heap.size W9 WF from HBF.out)
        refine hK.out _ _ hS2 ?_
        clear hK K
        refine wpAnyH_take (i := 21) (v := (.bool false)) rfl (by kernel_rfl) (by kernel_rfl) (by kernel_rfl) (fun _ _ _ h => h) (Or.inl ⟨by kernel_rfl, fun w' hw => by (go_simp)⟩) hS2 ?_
        refine wpAnyH_take (i := 22) (v := (.bool false)) rfl (by kernel_rfl) (by kernel_rfl) (by kernel_rfl) (fun _ _ _ h => h) (Or.inl ⟨by kernel_rfl, fun w' hw => by (go_simp)⟩) hS2 ?_
        refine wpAnyH_done (by kernel_rfl) ?_ _
        simp only [Act.put, List.getElem_toArray, List.getElem_cons_zero, List.getElem_cons_succ, List.setIfInBounds_toArray, List.set_cons_zero, List.set_cons_succ]
        by_cases hA7 : rs = recL (imgZ 8) (brL xs k)
        · have HA7 := hide hA7
          clear hA7 haf7 hlen7 hn7
          have hyl : ∀ r ∈ rs, r.2.length ≤ 4194304 := fun r hr => by
            rw [HA7.out] at hr
            unfold recL at hr
            obtain ⟨x, hx, rfl⟩ := List.mem_map.1 hr
            have h1 := brL_in x hx
            have h2 := fine_old (brL_fine x hx) imgZ_len
            show (oldOf (imgZ 8) x).length ≤ 4194304
            omega
          have HYL := hide hyl
          have KSM := hide (fun W u (h1 : RowR W (.slice ra rs.length rc) rs) (h2 : RowR W u (recL (imgZ 8) (brL xs k))) => usame_yes h1 (by rw [HA7.out]; exact h2) hrl hyl)
          clear hyl
          generalize recL (imgZ 8) (brL xs k) = rl at *
          go_wp2_with (first
            | (go_at_call 13; refine (KOL.out _ HBF.out).mono ?_; rintro e WA ⟨vA, rfl, hrA, hbA⟩; have HRA := hide hrA; have HBA := hide (bseq HBF.out hbA); clear hrA hbA)
            | (go_at_call 12; refine (KSM.out _ _ (HRR9.out.below HBA.out) HRA.out).mono ?_; rintro e WB ⟨rfl, hbB⟩; have HBB := hide hbB; clear hbB))
          go_ret
          exact ⟨rfl, bseq (bseq HB79.out HBA.out) HBB.out⟩
        · have hr0 : rs = [] := HHRS.out.elim (fun h => absurd h hA7) (fun h => h.1)
          subst hr0
          have HA7 := hide hA7
          clear hA7 haf7 hlen7 hn7 HHRS
          generalize recL (imgZ 8) (brL xs k) = rl at *
          go_wp2_with (first
            | (go_at_call 13; refine (KOL.out _ HBF.out).mono ?_; rintro e WA ⟨vA, rfl, hrA, hbA⟩; obtain ⟨oa, oc, rfl, _⟩ := hrA; have HBA := hide (bseq HBF.out hbA); clear hbA)
            | (go_at_call 12; refine (usame_no (fun h => HA7.out (List.length_eq_zero_iff.1 h.symm).symm)).mono ?_; rintro e w' ⟨rfl, hw⟩; obtain rfl := hw.symm))
          go_ret
          exact ⟨rfl, bseq HB79.out HBA.out⟩
end Go.Proofs.Ytadmekikdaocoaa
namespace Go.Proofs.Ytadmekikdaocoaa
open Go.ChangeShapes Go.WideShapes Go.ChangeAt Go.RowKit
set_option linter.unusedVariables false
set_option maxRecDepth 100000

theorem ext_cells {H : Type} {enc : TypeId × Value → H} {W : World} {fuel : Nat} {cs : List Value} {x : DataW H × List MemPlace}
    (h : DataW.trod enc Try.prog W 0 (fun _ => true) true fuel 58 cs = some x) :
    ∃ (a : Int × Int), cs = [.int .i64 a.1, .int .i64 a.2] ∧ ((-9223372036854775808 ≤ a.1 ∧ a.1 ≤ 9223372036854775807) ∧ (-9223372036854775808 ≤ a.2 ∧ a.2 ≤ 9223372036854775807)) := by
  obtain ⟨xs, n, _, hx, hl, hlen, hf⟩ := DataW.trod_struct Try.underlying58 h
  rw [show Try.prog.cellsOf 58 = 2 by kernel_rfl] at hl
  match cs, hl with
  | [c0, c1], _ =>
    match xs, hlen with
    | [y0, y1], _ =>
      have h0 := hf 0 _ rfl
      have h1 := hf 1 _ rfl
      simp [show Try.prog.cellsOf 3 = 1 by kernel_rfl] at h0 h1
      obtain ⟨z0, e0, _, w0⟩ := DataW.trod_int Try.underlying3 h0
      obtain ⟨z1, e1, _, w1⟩ := DataW.trod_int Try.underlying3 h1
      simp at e0 e1
      subst e0 e1
      exact ⟨(z0, z1), rfl, bounds_i64 w0, bounds_i64 w1⟩
theorem slice_form {H : Type} {enc : TypeId × Value → H} {W : World} {fuel : Nat} {t e : TypeId} {v : Value} {x : DataW H × List MemPlace} (ht : Try.prog.underlying t = some (.slice e)) (h : DataW.trod enc Try.prog W 0 (fun _ => true) true fuel t [v] = some x) : ∃ a l c, v = .slice a l c := by
  rcases Go.Deep.open_slice ht h with ⟨hcs, _⟩ | ⟨ad, l, c, m, n, D, Pl, hcs, _⟩
  · simp at hcs; exact ⟨none, 0, 0, hcs⟩
  · simp at hcs; exact ⟨some ad, l, c, hcs⟩
theorem story_cells {H : Type} {enc : TypeId × Value → H} {W : World} {fuel : Nat} {cs : List Value} {x : DataW H × List MemPlace}
    (h : DataW.trod enc Try.prog W 0 (fun _ => true) true fuel 26 cs = some x) :
    ∃ (a a1 a2 : Option Addr) (m c m1 c1 m2 c2 : Nat) (lg : Bool) (xs : List (Int × Int)), cs = [.slice a m c, .slice a1 m1 c1, .slice a2 m2 c2, .bool lg] ∧ SlX W a xs ∧ xs.length = m := by
  obtain ⟨xs, n, _, hx, hl, hlen, hf⟩ := DataW.trod_struct Try.underlying26 h
  rw [show Try.prog.cellsOf 26 = 4 by kernel_rfl] at hl
  match cs, hl with
  | [v0, v1, v2, v3], _ =>
    match xs, hlen with
    | [y0, y1, y2, y3], _ =>
      have h0 := hf 0 _ rfl
      have h1 := hf 1 _ rfl
      have h2 := hf 2 _ rfl
      have h3 := hf 3 _ rfl
      simp [show Try.prog.cellsOf 22 = 1 by kernel_rfl, show Try.prog.cellsOf 23 = 1 by kernel_rfl, show Try.prog.cellsOf 24 = 1 by kernel_rfl, show Try.prog.cellsOf 4 = 1 by kernel_rfl] at h0 h1 h2 h3
      obtain ⟨a, m, c, rfl⟩ := slice_form Try.underlying22 h0
      obtain ⟨a1, m1, c1, rfl⟩ := slice_form Try.underlying23 h1
      obtain ⟨a2, m2, c2, rfl⟩ := slice_form Try.underlying24 h2
      obtain ⟨lg, e3, _⟩ := DataW.trod_bool Try.underlying4 h3
      simp at e3
      subst e3
      obtain ⟨es, hel, hrow, hq, _⟩ := open_row (fun (p : Int × Int) => [.int .i64 p.1, .int .i64 p.2]) (fun p (_ : DataW H) => (-9223372036854775808 ≤ p.1 ∧ p.1 ≤ 9223372036854775807) ∧ (-9223372036854775808 ≤ p.2 ∧ p.2 ≤ 9223372036854775807)) (fun _ => 0) Try.underlying22 (sz := 2) (by kernel_rfl) (by omega) (fun _ => rfl) (fun fuel cs x hh => by obtain ⟨p, e1, e2⟩ := ext_cells hh; exact ⟨p, e1, e2, Nat.zero_le _⟩) h0
      refine ⟨a, a1, a2, m, c, m1, c1, m2, c2, lg, es, rfl, ⟨fun x hx => by obtain ⟨d, hd⟩ := hq x hx; exact hd, ?_⟩, hel.symm⟩
      rcases hrow with h5 | ⟨g, o, e, hg, hc⟩
      · exact .inl h5
      · refine .inr ⟨g, o, e, hg, fun i x l hi => ⟨?_, ?_⟩⟩
        · have := hc i (x, l) hi 0 _ rfl
          simpa using this
        · exact hc i (x, l) hi 1 _ rfl
theorem open_story {H : Type} {enc : TypeId × Value → H} {W : World} {r : Reach} {b0 : Nat} {v : Value} {d : DataW H} {p : List MemPlace}
    (hv : Value.okWide Try.prog W r b0 26 v) (h : DataW.Trod enc Try.prog W 0 (fun _ => true) true 26 v d p) :
    ∃ (a a1 a2 : Option Addr) (m c m1 c1 m2 c2 : Nat) (lg : Bool) (xs : List (Int × Int)), v = .agg #[.slice a m c, .slice a1 m1 c1, .slice a2 m2 c2, .bool lg] ∧ SlX W a xs ∧ xs.length = m := by
  obtain ⟨cs, rfl, hsz⟩ := okWide_struct Try.underlying26 hv
  obtain ⟨fuel, hf⟩ := h
  obtain ⟨a, a1, a2, m, c, m1, c1, m2, c2, lg, xs, e5, hb⟩ := story_cells hf
  refine ⟨a, a1, a2, m, c, m1, c1, m2, c2, lg, xs, ?_, hb⟩
  have e' : cs.toList = [.slice a m c, .slice a1 m1 c1, .slice a2 m2 c2, .bool lg] := by simpa [Value.cells] using e5
  rw [← Array.toArray_toList (xs := cs), e']
end Go.Proofs.Ytadmekikdaocoaa
namespace Go.Proofs.Ytadmekikdaocoaa
open Go.ChangeShapes Go.WideShapes Go.ChangeAt Go.RowKit
set_option linter.unusedVariables false
theorem trod_len {H : Type} {enc : TypeId × Value → H} {W : World} {t e : TypeId} {a : Option Addr} {l c : Nat} {d : DataW H} {p : List MemPlace} (ht : Try.prog.underlying t = some (.slice e)) (h : DataW.Trod enc Try.prog W 0 (fun _ => true) true t (.slice a l c) d p)
    (hz : ∀ el sp, d = .slice el sp → (el.length + sp.length) * Try.prog.bytesOf e ≤ reachBytes) : l * Try.prog.bytesOf e ≤ reachBytes := by
  obtain ⟨fuel, hf⟩ := h
  have hf : DataW.trod enc Try.prog W 0 (fun _ => true) true fuel t [.slice a l c] = some (d, p) := by simpa [Value.cells] using hf
  rcases Go.Deep.open_slice ht hf with ⟨hcs, hx0⟩ | ⟨ad, l', c', m, n, D, Pl, hcs, _, hl, hm, hmm, hx, hele⟩
  · simp at hcs
    obtain ⟨rfl, rfl, rfl⟩ := hcs
    simp
  · simp at hcs
    obtain ⟨rfl, rfl, rfl⟩ := hcs
    simp only [Prod.mk.injEq] at hx
    have h5 := hz _ _ hx.1
    simp only [List.length_map, List.length_range] at h5
    exact Nat.le_trans (Nat.mul_le_mul_right _ (Nat.le_add_right _ _)) h5
theorem len_nums {l : Nat} (h : l * Try.prog.bytesOf 3 ≤ reachBytes) : l ≤ 17592186043904 := by
  have e : Try.prog.bytesOf 3 = 8 := by kernel_rfl
  have e2 : reachBytes = 140737488351232 := by decide
  rw [e, e2] at h; omega
theorem open_keepV {H : Type} {enc : TypeId × Value → H} {W : World} {v : Value} {d : DataW H} {p : List MemPlace} (h : DataW.Trod enc Try.prog W 0 (fun _ => true) true 51 v d p) (hv : ∃ a l c, v = .slice a l c) :
    ∃ (a : Option Addr) (nk c : Nat) (zs : List Int), v = .slice a nk c ∧ SlZ W a zs ∧ zs.length = nk ∧ nk ≤ c ∧ (a = none → zs = [] ∧ c = 0) := by
  obtain ⟨a, l, c, rfl⟩ := hv
  obtain ⟨fuel, hf⟩ := h
  have hf : DataW.trod enc Try.prog W 0 (fun _ => true) true fuel 51 [.slice a l c] = some (d, p) := by simpa [Value.cells] using hf
  rcases open_ints Try.underlying51 Try.underlying3 (by kernel_rfl) hf with ⟨hcs, hx0⟩ | ⟨ad, l', cap, zs, hcs, _, hl, hm, hzl, hx, hcell, hwz⟩
  · simp at hcs
    obtain ⟨rfl, rfl, rfl⟩ := hcs
    exact ⟨none, 0, 0, [], rfl, ⟨by simp, .inl rfl⟩, rfl, Nat.le_refl _, fun _ => ⟨rfl, rfl⟩⟩
  · simp at hcs
    obtain ⟨rfl, rfl, rfl⟩ := hcs
    simp only [if_true] at hzl
    have htl : (zs.take l).length = l := by rw [List.length_take]; omega
    refine ⟨some ad, l, c, zs.take l, rfl, ⟨fun z hz => bounds_i64 (hwz z (List.mem_of_mem_take hz)), ?_⟩, htl, hl, ?_⟩
    · by_cases h0 : l = 0
      · subst h0; exact .inl (by simp)
      · obtain ⟨b, off, spot⟩ := ad
        have hc := hcell 0 (by omega)
        have hspot : spot = none := by simpa [Addr.add] using World.cell?_spot hc
        subst hspot
        refine .inr ⟨b, off, rfl, World.block_lt_of_cell? _ _ hc, fun i y hy => ?_⟩
        have hi : i < l := by
          have := (List.getElem?_eq_some_iff.1 hy).1
          omega
        rw [List.getElem?_take, if_pos hi] at hy
        have h1 := hcell i (by omega)
        have e : (⟨b, off, none⟩ : Addr).add i = ⟨b, off + i, none⟩ := by simp [Addr.add]
        rw [e] at h1
        rw [h1, List.getD_eq_getElem?_getD, hy]
        rfl
    · intro h; cases h
end Go.Proofs.Ytadmekikdaocoaa
namespace Go.Proofs.Ytadmekikdaocoaa.ulogWhole
open Go.ChangeShapes Go.WideShapes Go.ChangeAt Go.RowKit Go.Proofs.Ytadmekikdaocoaa
set_option linter.unusedVariables false

set_option maxRecDepth 100000 in
theorem lifted (os : Os) (started : os.Started) (H : Type) (enc : TypeId × Value → H) :
    ReturnsInHanded {} Try.checked os 4 .any (Rows.ulogWholeSpec.pre6 enc Try.prog Try.f4 Rows.ulogWholeRow.domain false) (Rows.ulogWholeSpec.post enc Try.prog Try.f4 false true false false) := by
  refine returnsInHanded_of_change_sized (C := Try.checked) own started (by kernel_rfl) Try.func4
    (ChangeSpec.witness6 (enc := enc) (C := Try.checked) false ⟨#[], #[.agg #[.slice none 0 0, .slice none 0 0, .slice none 0 0, .bool false], .int .i64 0, .slice none 0 0], []⟩ 8 (by kernel_rfl) (by kernel_rfl) (by kernel_rfl) (by kernel_rfl)) ?_
  intro W base args ds gs before hval0 hW hcnd hsz0 _
  have hval : ∀ (j : Nat) t v, Try.f4.params[j]? = some t → args[j]? = some v → Value.okWide Try.prog W .any base t v := hval0
  have hsz : (DataW.weightsEach Try.prog (Try.f4.params.toList ++ Rows.ulogWholeSpec.plain.varTypes Try.prog) (ds ++ gs)).all (· ≤ reachBytes) = true := hsz0
  have hW' := hW
  obtain ⟨p, q, hA0, hV, rfl, hfz, hnd⟩ := hW
  have hA : DataW.TrodAll enc Try.prog W 0 (fun _ => true) true Try.f4.params.toList args.toList ds p := hA0
  rw [Try.params4] at hA hval hsz
  obtain ⟨v0, vs0, d0, ds0, p0, q0, hargs, rfl, rfl, h0, r0⟩ := trodAll_cons hA
  obtain ⟨v1, vs1, d1, ds1, p1, q1, rfl, rfl, rfl, h1, r1⟩ := trodAll_cons r0
  obtain ⟨v2, vs2, d2, ds2, p2, q2, rfl, rfl, rfl, h2, r2⟩ := trodAll_cons r1
  obtain ⟨rfl, rfl, rfl⟩ := trodAll_nil r2
  obtain rfl : args = #[v0, v1, v2] := by cases args; simp_all
  obtain ⟨rfl, rfl⟩ := trodVars_none hV
  have k0 := h0
  have lt0 : ∀ x ∈ p0, x.block < W.heap.size := by obtain ⟨m, hm⟩ := k0; exact DataW.trod_lt m _ _ _ hm
  obtain ⟨ea0, aa0, ab0, m0, c0, ma0, ca0, mb0, cb0, lg0, xs0, rfl, hx0, hl0⟩ := open_story (hval 0 26 v0 rfl rfl) h0
  obtain ⟨a1, rfl, rfl, rfl, w1⟩ := open_int Try.underlying3 (hval 1 3 v1 rfl rfl) h1
  have b1 := bounds_i64 w1
  have k2 := h2
  have lt2 : ∀ x ∈ p2, x.block < W.heap.size := by obtain ⟨m, hm⟩ := k2; exact DataW.trod_lt m _ _ _ hm
  obtain ⟨ka2, nk2, kc2, zs2, rfl, hz2, zl2, zc2, zb2⟩ := open_keepV h2 (by obtain ⟨a, l, c, e⟩ := okWide_slice Try.underlying51 (hval 2 51 v2 rfl rfl); exact ⟨a, l, c, e⟩)
  have z2 := len_nums (trod_len Try.underlying51 k2 (fun el sp hd => by subst hd; exact sized_slice hsz (j := 2) (t := 51) (e := 3) rfl rfl Try.underlying51))
  clear hval0
  clear hA0
  refine (ulogWhole_walk W ea0 aa0 ab0 ka2 m0 c0 ma0 ca0 mb0 cb0 nk2 kc2 lg0 xs0 a1 zs2 hx0 hl0 b1 hz2 zl2 z2).mono fun e W' ⟨he, bel⟩ => ?_
  subst he
  exact ⟨_, rfl, _, _, _, [], _, [], hW', trodAll_mk1 (shut_bool Try.underlying4 _), (trodAll_cons_mk (Below.trod laidOut (by kernel_rfl) (of_decide_eq_true (by kernel_rfl)) k0 bel lt0) (trodAll_cons_mk (shut_int Try.underlying3 w1) (trodAll_cons_mk (Below.trod laidOut (by kernel_rfl) (of_decide_eq_true (by kernel_rfl)) k2 bel lt2) trodAll_mk0))), rfl, bel.frame _, fun h => by cases h⟩

theorem over : Rows.ulogWholeRow.holds Try.pinned (OpenSpec.ofChange Rows.ulogWholeSpec) :=
  OpenClaim.holds_of_wide 4 Try.f4 rfl rfl rfl rfl rfl rfl rfl ⟨rfl, rfl, rfl, rfl, rfl⟩ rfl rfl rfl rfl rfl (by kernel_rfl) Try.func4 (by kernel_rfl)
    (of_decide_eq_true (by kernel_rfl)) (by unfold Func.isWrapper; first | (rw [if_pos (by decide +kernel)]; kernel_rfl) | (rw [if_neg (by decide +kernel)]; exact ⟨rfl, rfl⟩))
    (fun os started H enc _ => lifted os started H enc)

end Go.Proofs.Ytadmekikdaocoaa.ulogWhole

namespace Go.Proofs.Ytadmekikdaocoaa
/-- UlogWhole, as it is stated. -/
theorem ulogWhole_holds : Rows.UlogWholeSaid := ulogWhole.over
#print axioms ulogWhole_holds
end Go.Proofs.Ytadmekikdaocoaa
