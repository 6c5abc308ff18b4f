/- PmemArms answers true for all numbers of lines, scripts, steps at which power fails and lists of what lines keep: an armed device stops at the step that it names, keeps what the list says, and stays off. -/
import Derived.Test.YtaniglhkifbppaaPLsAM
import Derived.Test.YtaniglhkifbppaaPImg
import Derived.Deep.Cut
import Derived.Test.YtaniglhkifbppaaPSt
import Derived.Test.YtaniglhkifbppaaPFl
import Derived.Test.YtaniglhkifbppaaPFnW
import Derived.Test.YtaniglhkifbppaaPNew
namespace Go.Proofs.Ytaniglhkifbppaa
open Go.RowKit Go.Shelf
set_option linter.unusedVariables false

/-- A script that is handed in. -/
structure ScrP (w : World) (a : Option Addr) (ns : Nat) (xs : List StpR) : Prop where
  row : RowC 7 (fun s : StpR => s.vals.toList) w a xs
  ok : ∀ s ∈ xs, s.Ok
  len : xs.length = ns
  few : ns ≤ 1353300000000
theorem ScrP.below {w w' : World} {a : Option Addr} {ns : Nat} {xs : List StpR} (h : ScrP w a ns xs) (hB : Below w.heap.size w w') : ScrP w' a ns xs := ⟨h.row.below hB, h.ok, h.len, h.few⟩
/-- The crash, where all numbers may be. -/
theorem pd_crash {w W W4 : World} {p b m nk : Nat} {K : Kl} {L : Lay} {B : Bk} {σ : St} {zs : List Int} {ca : Option Addr} {cc : Nat} (h : Pd w W p b K L B σ) (st : StepOk B σ) (hn : σ.n = m) (hz : ∀ z ∈ zs, -9223372036854775808 ≤ z ∧ z ≤ 9223372036854775807) (hnk : zs.length = nk) (hk9 : nk ≤ 17592186043904) (hg : nonneg zs = true) (ho : OwnI W4 W.heap.size (.slice ca nk cc) zs) (hB : Below W.heap.size W W4) :
    Calls Try.prog 13 #[.pointer (some ⟨b, 0, none⟩), .slice ca nk cc] W4 fun e W5 => e = .returned (.int .i64 0) ∧ W5.cell? ⟨p, 0, none⟩ = some (.pointer (some ⟨b, 0, none⟩)) ∧ ∃ L' σ', Lost σ (zs.map Int.toNat) σ' ∧ Pd w W5 p b K L' B σ' ∧ Gr (fun k => k = b ∨ k = L.sb) W4 W5 := by
  have h4 := h.below hB
  have hk := ho.slN hnk hz hg
  have hc := pcrash_any cc h4.dev st.ok st.off hk (by rw [List.length_map, hnk]; omega)
  rw [List.length_map, hnk] at hc
  refine hc.mono ?_
  rintro e W5 ⟨rfl, L', σ', q1, q2, q3, q4, q5⟩
  have hsub : ∀ k, (k = b ∨ k = L.sb) → Foot b L σ k := fun k hk => hk.elim (fun e => .inl e) (fun e => .inr (.inl e))
  have hp5 : PlL W5 p b K B := h4.pl.gr q4 (fun k hk hx => h4.dis k hk (hsub k hx))
  have hpd : Pd w W5 p b K L' B σ' := by
    refine h4.step q2 (by rw [q1.ops]; have := h4.num; omega) hp5 (q4.mono (fun k hk => .inl (hsub k hk))) q3 (fun k hk hf => ?_) (fun k hk => .inl hk)
    rcases q3 k hf with h5 | h5
    · exact h4.dis k hk h5
    · have := h4.pl.lt hk; omega
  exact ⟨rfl, hp5.c 0, L', σ', q1, hpd, q4⟩
/-- What the last loop reads. -/
structure LsAt (w W : World) (p b : Nat) (K : Kl) (B : Bk) (R I : Nat) (sb ib : List Nat) : Prop where
  pl : PlL W p b K B
  rs : OwnB W R sb
  ri : OwnB W I ib
  bel : Below w.heap.size w W
theorem LsAt.below {w W W' : World} {p b : Nat} {K : Kl} {B : Bk} {R I : Nat} {sb ib : List Nat} (h : LsAt w W p b K B R I sb ib) (hB : Below W.heap.size W W') : LsAt w W' p b K B R I sb ib := ⟨h.pl.below hB, h.rs.below hB h.rs.lt, h.ri.below hB h.ri.lt, h.bel.trans (hB.mono h.bel.size)⟩
end Go.Proofs.Ytaniglhkifbppaa
namespace Go.Proofs.Ytaniglhkifbppaa
open Go.RowKit Go.Shelf
set_option linter.unusedVariables false

section
variable {w : World} {b : Nat} {L : Lay} {σ : St}
theorem pload_off (h : DevL w b L σ) (ho : σ.off = true) (x y : Int) : Calls Try.prog 23 #[.pointer (some ⟨b, 0, none⟩), .int .i64 x, .int .i64 y] w fun e w' => e = .returned (.tuple #[.slice none 0 0, .int .i64 5]) ∧ Below w.heap.size w w' := by
  have hA : Below w.heap.size w ((w.alloc (.cells #[.pointer (some ⟨b, 0, none⟩)] 33)).alloc (.cells #[.int .i64 x] 3)) := ((Below.refl _ w).alloc (Nat.le_refl _) _).alloc (by simp) _
  have ks := pstate_any (h.below hA)
  rw [ho] at ks
  simp only [if_true] at ks
  have KS := hide ks
  have HA := hide hA
  clear h hA ks ho
  refine (callsIn_wide (n := 3)).1 ?_
  refine callsIn_of_wp_marks Try.func23 rfl trivial ?_ rfl
  simp only [Try.ntmps23, List.size_toArray, List.length_cons, List.length_nil, Nat.reduceAdd, Nat.reduceSub, Array.replicate_succ, Array.replicate_zero, List.push_toArray, List.append_toArray, List.nil_append, List.cons_append]
  gi_wp2_with (refine ⟨trivial, ?_⟩; gi_at_call 24; refine (inW KS.out).mono ?_; rintro e w' ⟨rfl, hw⟩; obtain rfl := hw)
  exact ⟨_, results_tmp2 rfl _ _ _, rfl, HA.out⟩
theorem psto_off (h : DevL w b L σ) (ho : σ.off = true) (x : Int) (a : Option Addr) (l c : Nat) : Calls Try.prog 28 #[.pointer (some ⟨b, 0, none⟩), .int .i64 x, .slice a l c] w fun e w' => e = .returned (.int .i64 5) ∧ w' = w := by
  have ks := pstate_any h
  rw [ho] at ks
  simp only [if_true] at ks
  have KS := hide ks
  clear h ho ks
  go_enter Try.func28, Try.ntmps28
  go_wp2_with (go_at_call 24; refine (KS.out).mono ?_; rintro e w' ⟨rfl, hw⟩; obtain rfl := hw.symm)
  go_ret
  exact ⟨rfl, rfl⟩
theorem parm_off (h : DevL w b L σ) (ho : σ.off = true) (a : Option Addr) (l c : Nat) : Calls Try.prog 8 #[.pointer (some ⟨b, 0, none⟩), .slice a l c] w fun e w' => e = .returned (.int .i64 5) ∧ w' = w := by
  have ks := pstate_any h
  rw [ho] at ks
  simp only [if_true] at ks
  have KS := hide ks
  clear h ho ks
  go_enter Try.func8, Try.ntmps8
  go_wp2_with (go_at_call 24; refine (KS.out).mono ?_; rintro e w' ⟨rfl, hw⟩; obtain rfl := hw.symm)
  go_ret
  exact ⟨rfl, rfl⟩
set_option maxRecDepth 100000 in
set_option maxHeartbeats 2000000 in
theorem off_any (h : DevL w b L σ) (hok : σ.Ok) (ho : σ.off = true) : Calls Try.prog 12 #[.pointer (some ⟨b, 0, none⟩)] w fun e w' => e = .returned (.bool true) ∧ Below w.heap.size w w' := by
  obtain ⟨nb, hnb⟩ : ∃ nb, 64 * σ.n = nb := ⟨_, rfl⟩
  have hmx := hok.max
  have hbl : σ.bytes.length = nb := by rw [hok.len, hnb]
  have KI := hide (fun (X : World) (hX : Below w.heap.size w X) => (show Calls Try.prog 15 #[.pointer (some ⟨b, 0, none⟩)] X fun e w' => e = .returned (.slice (some ⟨X.heap.size, 0, none⟩) nb nb) ∧ OwnB w' X.heap.size σ.bytes ∧ Below X.heap.size X w' from by rw [← hnb]; exact pimg_any (h.below hX) hok))
  have KO := hide (fun (X : World) (hX : Below w.heap.size w X) => pops_any (h.below hX))
  have KL := hide (fun (X : World) (hX : Below w.heap.size w X) (x y : Int) => pload_off (h.below hX) ho x y)
  have K8 := hide (fun (X : World) (hX : Below w.heap.size w X) (v x : Int) => pst8_off v x (h.below hX) ho)
  have KST := hide (fun (X : World) (hX : Below w.heap.size w X) (x : Int) (a : Option Addr) (l c : Nat) => psto_off (h.below hX) ho x a l c)
  have KFL := hide (fun (X : World) (hX : Below w.heap.size w X) (x : Int) => pflush_off (h.below hX) ho x)
  have KFN := hide (fun (X : World) (hX : Below w.heap.size w X) => pfence_off (h.below hX) ho)
  have KCR := hide (fun (X : World) (hX : Below w.heap.size w X) (a : Option Addr) (l c : Nat) => pcrash_off (a := a) c (h.below hX) ho l)
  have KAR := hide (fun (X : World) (hX : Below w.heap.size w X) (a : Option Addr) (l c : Nat) => parm_off (h.below hX) ho a l c)
  have KOF := hide (fun (X : World) (hX : Below w.heap.size w X) => (show Calls Try.prog 18 #[.pointer (some ⟨b, 0, none⟩)] X fun e w' => e = .returned (.bool true) ∧ w' = X from by have h5 := poff_any (h.below hX); rwa [ho] at h5))
  have HBY := hide hok.byte
  have HBL := hide hbl
  have nbI : (nb : Int) ≤ 4194304 := by omega
  have HB := hide (Below.refl w.heap.size w)
  have M1 := hide trivial
  clear h hok ho hnb hbl
  go_enter Try.func12, Try.ntmps12
  go_wp2_with (first
    | (go_at_call 15; have M1' := M1; clear M1' M1; refine (KI.out _ HB.out).mono ?_; rintro e W1 ⟨rfl, ho1, hb1⟩; have HO1 := hide ho1; replace HB := hide (HB.out.trans (hb1.mono HB.out.size)); clear ho1 hb1)
    | (go_at_call 15; refine (KI.out _ HB.out).mono ?_; rintro e W4 ⟨rfl, ho4, hb4⟩; have ke := eqBytes_any (some ⟨W3.heap.size, 0, none⟩) (some ⟨w.heap.size, 0, none⟩) nb nb σ.bytes σ.bytes W4 (ho4.sl HBY.out) (((HO1.out.below HB13.out HO1.out.lt).below hb4 (HO1.out.below HB13.out HO1.out.lt).lt).sl HBY.out) (by rw [HBL.out]; omega); rw [HBL.out, decide_eq_true rfl] at ke; have KE := hide ke; replace HB := hide (HB.out.trans (hb4.mono HB.out.size)); clear ho4 hb4 ke)
    | (go_at_call 14; refine (KE.out).mono ?_; rintro e w' ⟨rfl, nq, rfl⟩)
    | (go_at_call 11; refine (KO.out _ HB.out).mono ?_; rintro e w' ⟨rfl, hw⟩; obtain rfl := hw.symm)
    | (go_at_call_of 23 (Value.int .i64 0); refine (KL.out _ HB.out 0 1).mono ?_; rintro e W2 ⟨rfl, hb2⟩; have HB12 := hide hb2; replace HB := hide (HB.out.trans (hb2.mono HB.out.size)); clear hb2)
    | (go_at_call 23; refine (KL.out _ HB.out (-1) 1).mono ?_; rintro e W3 ⟨rfl, hb3⟩; have HB13 := hide (HB12.out.trans (hb3.mono HB12.out.size)); replace HB := hide (HB.out.trans (hb3.mono HB.out.size)); clear hb3)
    | (go_at_call 20; refine (K8.out _ HB.out _ _).mono ?_; rintro e w' ⟨rfl, hw⟩; obtain rfl := hw.symm)
    | (go_at_call 28; refine (KST.out _ HB.out _ _ _ _).mono ?_; rintro e w' ⟨rfl, hw⟩; obtain rfl := hw.symm)
    | (go_at_call 21; refine (KFL.out _ HB.out _).mono ?_; rintro e w' ⟨rfl, hw⟩; obtain rfl := hw.symm)
    | (go_at_call 17; refine (KFN.out _ HB.out).mono ?_; rintro e w' ⟨rfl, hw⟩; obtain rfl := hw.symm)
    | (go_at_call 13; refine (KCR.out _ HB.out _ _ _).mono ?_; rintro e w' ⟨rfl, hw⟩; obtain rfl := hw.symm)
    | (go_at_call 8; refine (KAR.out _ HB.out _ _ _).mono ?_; rintro e w' ⟨rfl, hw⟩; obtain rfl := hw.symm)
    | (go_at_call 18; refine (KOF.out _ HB.out).mono ?_; rintro e w' ⟨rfl, hw⟩; obtain rfl := hw.symm))
  go_ret
  exact ⟨rfl, below_drewN HB.out nq⟩
end
end Go.Proofs.Ytaniglhkifbppaa
namespace Go.Proofs.Ytaniglhkifbppaa
open Go.RowKit Go.Shelf
set_option linter.unusedVariables false

theorem OwnI.zero {W : World} {B : Nat} {v : Value} {zs : List Int} (h : OwnI W B v zs) : OwnI W 0 v zs := by
  refine ⟨h.1, ?_⟩
  rcases h.2 with h1 | ⟨g, cap, cur, e, h1, h2⟩
  · exact .inl h1
  · exact .inr ⟨g, cap, cur, e, Nat.zero_le _, h2⟩
theorem OwnI.below {W W' : World} {v : Value} {zs : List Int} (h : OwnI W 0 v zs) (hB : Below W.heap.size W W') : OwnI W' 0 v zs := ownsRow_of_block h (fun g hg => by obtain ⟨c, hc⟩ := own_type h hg; exact hB.block g (lt_of_heap hc))
/-- How long the rows of a book are. -/
def Lens (B : Bk) (m : Nat) : Prop := B.seen.length = 8 * m ∧ B.held.length = 8 * m ∧ B.last.length = 8 * m ∧ B.sure.length = 8 * m ∧ B.marks.length = m
theorem BkRel.lens {B : Bk} {σ : St} {m : Nat} (h : BkRel B σ) (hn : σ.n = m) : Lens B m := ⟨by rw [h.ls, hn], by rw [h.lh, hn], by rw [h.ll, hn], by rw [h.lu, hn], by rw [h.lm, hn]⟩
theorem Lens.step {B : Bk} {m N : Nat} (h : Lens B m) (s : StpR) : Lens (stB s N B) m := by
  obtain ⟨h1, h2, h3, h4, h5⟩ := h
  unfold stB
  split
  · refine ⟨by show (B.seen.set _ _).length = _; rw [List.length_set]; exact h1, by show (B.held.set _ _).length = _; rw [List.length_set]; exact h2, h3, by show (B.sure.set _ _).length = _; rw [List.length_set]; exact h4, ?_⟩
    show (if _ then B.marks.set _ _ else B.marks).length = m
    split
    · rw [List.length_set]; exact h5
    · exact h5
  · split
    · exact ⟨h1, h2, h3, h4, by show (B.marks.set _ _).length = _; rw [List.length_set]; exact h5⟩
    · split
      · exact ⟨h1, h2, (fenLast_len B _).trans h3, (fenSure_len B _).trans h4, by show (List.replicate _ _).length = _; rw [List.length_replicate]; exact h5⟩
      · exact ⟨h1, h2, h3, h4, h5⟩
theorem twin_ok {σ : St} {af : Nat} {kp : List Nat} (h : σ.Ok) : (twin σ af kp).Ok := ⟨h.pos, h.max, h.len, h.byte, h.out, h.clen, h.cbyte, h.few, h.flp, h.opsm⟩
/-- How many operations there are behind a step. -/
def opsOf (s : StpR) (σ : St) : Nat := if s.k = 2 ∨ s.k = 3 ∨ s.k = 4 ∨ s.k = 5 then σ.ops + 1 else σ.ops
theorem StepD.ops {s : StpR} {N : Nat} {σ σ' : St} {c : Int} (h : StepD s N σ c σ') : σ'.ops = opsOf s σ := by
  unfold StepD at h
  unfold opsOf
  by_cases k2 : s.k = 2 ∨ s.k = 3
  · rw [if_pos k2] at h
    rw [if_pos (by omega)]
    exact h.ops
  · rw [if_neg k2] at h
    by_cases k4 : s.k = 4
    · rw [if_pos k4] at h
      rw [if_pos (by omega)]
      exact h.ops
    · rw [if_neg k4] at h
      by_cases k5 : s.k = 5
      · rw [if_pos k5] at h
        rw [if_pos (by omega)]
        exact h.ops
      · rw [if_neg k5] at h
        rw [if_neg (by omega), h.2]
theorem stepD_has {s : StpR} {N : Nat} {σ : St} (ha : σ.arms = []) : ∃ σ', StepD s N σ 0 σ' := by
  unfold StepD
  by_cases k2 : s.k = 2 ∨ s.k = 3
  · simp only [if_pos k2]
    exact ⟨_, .inl ⟨ha, rfl, rfl⟩⟩
  · simp only [if_neg k2]
    by_cases k4 : s.k = 4
    · simp only [if_pos k4]
      exact ⟨_, .inl ⟨ha, rfl, rfl⟩⟩
    · simp only [if_neg k4]
      by_cases k5 : s.k = 5
      · simp only [if_pos k5]
        exact ⟨_, .inl ⟨ha, rfl, rfl⟩⟩
      · simp only [if_neg k5]
        exact ⟨σ, trivial, rfl⟩
theorem twin_code {s : StpR} {N af : Nat} {kp : List Nat} {σ σp : St} {c : Int} (ha : σ.arms = []) (hc : σ.cnt = 0) (hp : StepD s N (twin σ af kp) c σp) (hlt : σ.ops < af) : (opsOf s σ < af → c = 0) ∧ (opsOf s σ = af → c = 5) := by
  obtain ⟨σ', hq⟩ := stepD_has (s := s) (N := N) ha
  have ho := hq.ops
  rcases (twin_step ha hc hq hp hlt).2 with ⟨q1, q2, _⟩ | ⟨q1, q2, _⟩
  · exact ⟨fun _ => q2, fun h => by omega⟩
  · exact ⟨fun h => by omega, fun _ => q2⟩
/-- Both images, held against one another. -/
theorem two_images {V W : World} {p b q d m : Nat} {K K' : Kl} {L L' : Lay} {B B' : Bk} {σ σ' : St} (h : Two V W p b K L B σ q d K' L' B' σ') (hok : σ.Ok) (hok' : σ'.Ok) (hn : σ.n = m) (hn' : σ'.n = m) (hm4 : m ≤ 4) (hb : σ.bytes = σ'.bytes) (X : World) (hX : Below W.heap.size W X) :
    Calls Try.prog 15 #[.pointer (some ⟨b, 0, none⟩)] X fun e WD => e = .returned (.slice (some ⟨X.heap.size, 0, none⟩) (64 * m) (64 * m)) ∧ (WD.cell? ⟨p, 0, none⟩ = some (.pointer (some ⟨b, 0, none⟩)) ∧ WD.cell? ⟨q, 0, none⟩ = some (.pointer (some ⟨d, 0, none⟩))) ∧
      Calls Try.prog 15 #[.pointer (some ⟨d, 0, none⟩)] WD fun e WE => e = .returned (.slice (some ⟨WD.heap.size, 0, none⟩) (64 * m) (64 * m)) ∧ (WE.cell? ⟨p, 0, none⟩ = some (.pointer (some ⟨b, 0, none⟩)) ∧ WE.cell? ⟨q, 0, none⟩ = some (.pointer (some ⟨d, 0, none⟩))) ∧
        Calls Try.prog 14 #[.slice (some ⟨X.heap.size, 0, none⟩) (64 * m) (64 * m), .slice (some ⟨WD.heap.size, 0, none⟩) (64 * m) (64 * m)] WE fun e WF => e = .returned (.bool true) ∧ (WF.cell? ⟨p, 0, none⟩ = some (.pointer (some ⟨b, 0, none⟩)) ∧ WF.cell? ⟨q, 0, none⟩ = some (.pointer (some ⟨d, 0, none⟩))) ∧ Below W.heap.size W WF := by
  have h1 := h.below hX
  have k1 := pimg_any h1.one.dev hok
  rw [hn] at k1
  refine k1.mono ?_
  rintro e WD ⟨rfl, o1, b1⟩
  have h2 := h1.below b1
  refine ⟨rfl, ⟨h2.one.pl.c 0, h2.two.pl.c 0⟩, ?_⟩
  have k2 := pimg_any h2.two.dev hok'
  rw [hn'] at k2
  refine k2.mono ?_
  rintro e WE ⟨rfl, o2, b2⟩
  have h3 := h2.below b2
  refine ⟨rfl, ⟨h3.one.pl.c 0, h3.two.pl.c 0⟩, ?_⟩
  have hbl : σ'.bytes.length = 64 * m := by rw [hok'.len, hn']
  rw [hb] at o1
  have ke := eqBytes_any (some ⟨X.heap.size, 0, none⟩) (some ⟨WD.heap.size, 0, none⟩) (64 * m) (64 * m) σ'.bytes σ'.bytes WE ((o1.below b2 o1.lt).sl hok'.byte) (o2.sl hok'.byte) (by rw [hbl]; omega)
  rw [hbl, decide_eq_true rfl] at ke
  refine ke.mono ?_
  rintro e WF ⟨rfl, nq, rfl⟩
  have hbq : Below WE.heap.size WE (WE.drewN nq) := below_drewN (Below.refl _ _) nq
  have h4 := h3.below hbq
  refine ⟨rfl, ⟨h4.one.pl.c 0, h4.two.pl.c 0⟩, hX.trans ((b1.trans ((b2.trans (hbq.mono b2.size)).mono b1.size)).mono hX.size)⟩
set_option maxRecDepth 100000 in
set_option maxHeartbeats 8000000 in
theorem pmemArms_walk (w : World) (li x2 : Int) (a ka : Option Addr) (c ns kc nk : Nat) (xs : List StpR) (zs : List Int) (hli : -9223372036854775808 ≤ li ∧ li ≤ 9223372036854775807) (hx2 : -9223372036854775808 ≤ x2 ∧ x2 ≤ 9223372036854775807) (hx : ScrP w a ns xs) (hz : IntsP w ka zs) (hnk : zs.length = nk) (hk9 : nk ≤ 17592186043904) :
    Calls Try.prog 3 #[.agg #[.int .i64 li, .slice a ns c, .int .i64 x2, .slice ka nk kc]] w fun e w' => e = .returned (.bool true) ∧ Below w.heap.size w w' := by
  have HX := hide hx
  have HZ := hide hz
  have HNK := hide hnk
  have hB0 : Below w.heap.size w (w.alloc (.cells #[.int .i64 li, .slice a ns c, .int .i64 x2, .slice ka nk kc] 25)) := (Below.refl _ _).alloc (Nat.le_refl _) _
  have hbox := heap_alloc_new w (.cells #[.int .i64 li, .slice a ns c, .int .i64 x2, .slice ka nk kc] 25)
  have hs0 : (w.alloc (.cells #[.int .i64 li, .slice a ns c, .int .i64 x2, .slice ka nk kc] 25)).heap.size = w.heap.size + 1 := by simp
  have HB0 := hide hB0
  have HBOX := hide hbox
  have HS0 := hide hs0
  clear hx hz hnk hB0 hbox hs0
  go_enter Try.func3, Try.ntmps3
  go_upto_region 1 with (fail)
  generalize w.alloc (.cells #[.int .i64 li, .slice a ns c, .int .i64 x2, .slice ka nk kc] 25) = w0 at *
  obtain ⟨X, hX⟩ : ∃ X, w.heap.size = X := ⟨_, rfl⟩
  rw [hX] at HBOX HS0 ⊢
  have HXX := hide hX
  clear hX
  have fx : ∀ W, Below w0.heap.size w0 W → W.cell? ⟨X, 0, none⟩ = some (.int .i64 li) ∧ W.cell? ⟨X, 1, none⟩ = some (.slice a ns c) ∧ W.cell? ⟨X, 2, none⟩ = some (.int .i64 x2) ∧ W.cell? ⟨X, 3, none⟩ = some (.slice ka nk kc) := fun W hW => by
    have h1 := (hW.block X (by have := HS0.out; omega)).trans HBOX.out
    exact ⟨cell8 h1 0, cell8 h1 1, cell8 h1 2, cell8 h1 3⟩
  have FX := hide fx
  clear fx
  go_upto_region 3 with (go_at_call 4; refine (awake_any w0).mono ?_; rintro e W1 ⟨rfl, hB⟩; have HB1 := hide hB; clear hB)
  have S3 := hide (show W1.drew.cell? ⟨X, 1, none⟩ = some (.slice a ns c) ∧ W1.drew.cell? ⟨X, 3, none⟩ = some (.slice ka nk kc) from by have h5 := FX.out W1 HB1.out; exact ⟨h5.2.1, h5.2.2.2⟩)
  refine wp_region_held_drew (S := fun Y => Y.cell? ⟨X, 1, none⟩ = some (.slice a ns c) ∧ Y.cell? ⟨X, 3, none⟩ = some (.slice ka nk kc)) (by kernel_rfl) S3.out (fun hS => ?_)
  refine wpAnyH_take (i := 0) (v := (.pointer (some ⟨X, 1, none⟩))) rfl (by kernel_rfl) (by kernel_rfl) (by kernel_rfl) (fun _ _ _ h => h) (Or.inl ⟨by kernel_rfl, fun w' hw => by (go_simp)⟩) hS ?_
  refine wpAnyH_take (i := 1) (v := (.slice a ns c)) rfl (by kernel_rfl) (by kernel_rfl) (by kernel_rfl) (fun _ _ _ h => h) (Or.inl ⟨by kernel_rfl, fun w' hw => by (obtain ⟨z0, z1⟩ := hw; go_simp)⟩) hS ?_
  refine wpAnyH_take (i := 2) (v := (.pointer (some ⟨X, 3, none⟩))) rfl (by kernel_rfl) (by kernel_rfl) (by kernel_rfl) (fun _ _ _ h => h) (Or.inl ⟨by kernel_rfl, fun w' hw => by (go_simp)⟩) hS ?_
  refine wpAnyH_take (i := 3) (v := (.slice ka nk kc)) rfl (by kernel_rfl) (by kernel_rfl) (by kernel_rfl) (fun _ _ _ h => h) (Or.inl ⟨by kernel_rfl, fun w' hw => by (obtain ⟨z0, z1⟩ := hw; go_simp)⟩) hS ?_
  refine wpAnyH_take (i := 4) (v := (.slice a ns c)) rfl (by kernel_rfl) (by kernel_rfl) (by kernel_rfl) (fun _ _ _ h => h) (Or.inl ⟨by kernel_rfl, fun w' hw => by (go_simp)⟩) hS ?_
  refine wpAnyH_take (i := 5) (v := (.slice ka nk kc)) rfl (by kernel_rfl) (by kernel_rfl) (by kernel_rfl) (fun _ _ _ h => h) (Or.inl ⟨by kernel_rfl, fun w' hw => by (go_simp)⟩) hS ?_
  refine wpAnyH_done (by kernel_rfl) ?_ _
  simp only [Act.put, List.getElem_toArray, List.getElem_cons_zero, List.getElem_cons_succ, List.setIfInBounds_toArray, List.set_cons_zero, List.set_cons_succ]
  have HV := hide (show Below w0.heap.size w0 W1.drew from HB1.out.drew)
  clear S3 hS HB1
  generalize W1.drew = V at *
  obtain ⟨f0, f1, f2, f3⟩ := FX.out V HV.out
  have hwV : Below w.heap.size w V := HB0.out.trans (HV.out.mono HB0.out.size)
  have hzV : IntsP V ka zs := HZ.out.below hwV
  have kgo := good_any (w := V) kc nk hzV HNK.out (by omega)
  obtain ⟨r, hr, hr40⟩ : ∃ r : Nat, x2 % 40 = (r : Int) ∧ r < 40 := ⟨(x2 % 40).toNat, by omega, by omega⟩
  have kwi := pwithin_any V x2 40 (by omega) (by omega) hx2.1 hx2.2
  rw [hr] at kwi
  have KWI := hide kwi
  have HWV := hide hwV
  have rI : (r : Int) < 40 := by omega
  clear kwi hwV hr f1 f3
  by_cases hng : nonneg zs = true
  · rw [hng] at kgo
    have KGO := hide kgo
    have HZ2 := hide hzV
    have HNG := hide hng
    clear kgo hzV hng
    go_upto_region 6 with (go_at_call 5; refine (KGO.out).mono ?_; rintro e w' ⟨rfl, hw⟩; obtain rfl := hw.symm)
    go_upto_region 7 with (go_at_call 6; refine (KWI.out).mono ?_; rintro e w' ⟨rfl, hw⟩; obtain rfl := hw.symm)
    obtain ⟨af, haf⟩ : ∃ af : Nat, 1 + r = af := ⟨_, rfl⟩
    have hafI : (1 : Int) + (r : Int) = (af : Int) := by omega
    rw [hafI]
    have afI : (af : Int) ≤ 40 := by omega
    have af1 : 1 ≤ af := by omega
    have KB1 := hide (begun_any V li none 0 0 [] hli (.inl rfl) (by simp) rfl (by omega))
    clear haf hafI f2 KWI KGO rI hr40
    go_upto_region 8 with (go_at_call 7; refine (KB1.out).mono ?_; rintro e W2 ⟨p, b, m, K, L, B, σ, rfl, hpd, hst, hn, hmm, hm4, _, hcap, hz9⟩; obtain rfl := hz9 rfl; have HPD := hide hpd; have HST := hide hst; have HMM := hide hmm; have HCAP := hide hcap; clear hpd hst hn hcap hz9 hmm)
    have hm1 : 1 ≤ m := by have := HMM.out; omega
    obtain ⟨f0, _, _, _⟩ := FX.out W2 (HV.out.trans (HPD.out.bel.mono HV.out.size))
    have KB2 := hide (begun_any W2 li none 0 0 [] hli (.inl rfl) (by simp) rfl (by omega))
    clear KB1
    go_upto_region 9 with (go_at_call 7; refine (KB2.out).mono ?_; rintro e W3 ⟨q, d, m2, K', L', B', σ2, rfl, hpd, hst, hn, hmm, _, _, hcap, hz9⟩; obtain rfl : m2 = m := hmm.trans HMM.out.symm; obtain rfl := hz9 rfl; have HPQ := hide hpd; have HSQ := hide hst; have HCQ := hide hcap; clear hpd hst hn hcap hz9 hmm)
    have htwo : Two V W3 p b K L B (newD m2) q d K' L' B' (newD m2) := by
      have h1 := HPD.out
      have h2 := HPQ.out
      refine ⟨h1.below h2.bel, ⟨h2.pl, h2.dev, h2.num, h2.dis, fun k hk => Nat.le_trans h1.bel.size (h2.fp k hk), fun k hk => Nat.le_trans h1.bel.size (h2.fd k hk), h1.bel.trans (h2.bel.mono h1.bel.size)⟩, fun k hk hf => ?_⟩
      have q1 : k < W2.heap.size := hk.elim (fun h5 => h1.pl.lt h5) (fun h5 => h1.dev.foot_is h5)
      have q2 : W2.heap.size ≤ k := hf.elim (fun h5 => h2.fp k h5) (fun h5 => h2.fd k h5)
      omega
    have kci : Calls Try.prog 9 #[.slice ka nk kc] W3.drew fun e w' => ∃ ca cc, e = .returned (.slice ca nk cc) ∧ OwnI w' 0 (.slice ca nk cc) zs ∧ (nk = 0 → ca = none ∧ cc = 0) ∧ Below W3.heap.size W3 w' := by
      by_cases h0 : zs = []
      · have hn0 : nk = 0 := by first | rfl | (have h9 := HNK.out; rw [h0] at h9; simpa using h9.symm)
        have h5 := copyInts_nil W3.drew ka kc
        rw [← hn0] at h5
        refine h5.mono ?_
        rintro e w' ⟨rfl, rfl⟩
        exact ⟨none, 0, by rw [hn0], by rw [h0, hn0]; exact ⟨rfl, .inl ⟨rfl, rfl⟩⟩, fun _ => ⟨rfl, rfl⟩, (Below.refl _ W3).drew⟩
      · refine (copyInts_any kc nk (HZ2.out.below (htwo.one.bel.drew)) HNK.out (by omega)).mono ?_
        rintro e w' ⟨ca, cc, rfl, q1, q2⟩
        exact ⟨ca, cc, rfl, q1.zero, fun h9 => absurd (List.eq_nil_of_length_eq_zero (HNK.out.trans h9)) h0, (Below.refl _ W3).drew.trans q2⟩
    have kar : ∀ (W4 : World) (ca : Option Addr) (cc : Nat), OwnI W4 0 (.slice ca nk cc) zs → (nk = 0 → ca = none ∧ cc = 0) → Below W3.heap.size W3 W4 → W4.cell? ⟨p, 0, none⟩ = some (.pointer (some ⟨b, 0, none⟩)) ∧ (W4.alloc (.cells #[.int .i64 (af : Int), .slice ca nk cc] 42)).cell? ⟨p, 0, none⟩ = some (.pointer (some ⟨b, 0, none⟩)) ∧ Calls Try.prog 8 #[.pointer (some ⟨b, 0, none⟩), .slice (some ⟨W4.heap.size, 0, none⟩) 1 1] (W4.alloc (.cells #[.int .i64 (af : Int), .slice ca nk cc] 42)) fun e W6 => e = .returned (.int .i64 0) ∧ W6.cell? ⟨p, 0, none⟩ = some (.pointer (some ⟨b, 0, none⟩)) ∧ ∃ L6 kp, Two V W6 p b K L6 B (twin (newD m2) af kp) q d K' L' B' (newD m2) ∧ (∀ x ∈ kp, x < 9223372036854775808) ∧ kp.length ≤ 4 ∧ ∀ i, i < m2 → kp[i]? = (zs.map Int.toNat)[i]? := fun W4 ca cc h1 h2 h3 => by
      have hBa : Below W4.heap.size W4 (W4.alloc (.cells #[.int .i64 (af : Int), .slice ca nk cc] 42)) := (Below.refl _ _).alloc (Nat.le_refl _) _
      have t4 := htwo.below h3
      have t5 := t4.below hBa
      refine ⟨t4.one.pl.c 0, t5.one.pl.c 0, (parm_keep (af := af) t5.one.dev hm1 (by omega) af1 (h1.below hBa) HNK.out (by omega) HZ2.out.1 HNG.out h2 (heap_alloc_new W4 _) (fun e => by have h9 := t4.one.dev.foot_is (.inr (.inr (.inr (.inr (.inr (.inl e)))))); omega)).mono ?_⟩
      rintro e W6 ⟨rfl, L6, kp, q1, q2, q3, q4, q5, q6, q7⟩
      have hp6 : PlL W6 p b K B := t5.one.pl.gr q3 (fun k hk => t5.one.dis k hk)
      have t6 : Two V W6 p b K L6 B (twin (newD m2) af kp) q d K' L' B' (newD m2) := t5.step (σ1 := twin (newD m2) af kp) q1 (by have := t5.one.num; show L6.N ≤ 0; have h9 : L.N ≤ 0 := this; omega) hp6 (q3.mono (fun k hk => .inl hk)) q2 (fun k hk hf => by
        rcases q2 k hf with h9 | h9
        · exact t5.one.dis k hk h9
        · have := t5.one.pl.lt hk; omega) (fun k hk => .inl hk)
      exact ⟨rfl, hp6.c 0, L6, kp, t6, q5, q6, q7⟩
    have S9 := hide (show W3.drew.cell? ⟨p, 0, none⟩ = some (.pointer (some ⟨b, 0, none⟩)) from htwo.one.pl.c 0)
    have KCI := hide kci
    have KAR := hide kar
    clear kci kar htwo KB2 f0
    refine wp_region_held_drew (S := fun Y => Y.cell? ⟨p, 0, none⟩ = some (.pointer (some ⟨b, 0, none⟩))) (by kernel_rfl) S9.out (fun hS => ?_)
    refine wpAnyH_take (i := 0) (v := (.bool true)) rfl (by kernel_rfl) (by kernel_rfl) (by kernel_rfl) (fun _ _ _ h => h) (Or.inl ⟨by kernel_rfl, fun w' hw => by (go_simp)⟩) hS ?_
    refine wpAnyH_take (i := 1) (v := (.bool false)) rfl (by kernel_rfl) (by kernel_rfl) (by kernel_rfl) (fun _ _ _ h => h) (Or.inl ⟨by kernel_rfl, fun w' hw => by (go_simp)⟩) hS ?_
    refine wpAnyH_take (i := 2) (v := (.bool false)) rfl (by kernel_rfl) (by kernel_rfl) (by kernel_rfl) (fun _ _ _ h => h) (Or.inl ⟨by kernel_rfl, fun w' hw => by (go_simp)⟩) hS ?_
    refine wpAnyH_take (i := 3) (v := (.bool true)) rfl (by kernel_rfl) (by kernel_rfl) (by kernel_rfl) (fun _ _ _ h => h) (Or.inl ⟨by kernel_rfl, fun w' hw => by (go_simp)⟩) hS ?_
    refine wpAnyH_take (i := 4) (v := (.bool false)) rfl (by kernel_rfl) (by kernel_rfl) (by kernel_rfl) (fun _ _ _ h => h) (Or.inl ⟨by kernel_rfl, fun w' hw => by (go_simp)⟩) hS ?_
    refine wpAnyH_take (i := 5) (v := (.bool false)) rfl (by kernel_rfl) (by kernel_rfl) (by kernel_rfl) (fun _ _ _ h => h) (Or.inl ⟨by kernel_rfl, fun w' hw => by (go_simp)⟩) hS ?_
    refine wpAnyH_take (i := 6) (v := (.bool false)) rfl (by kernel_rfl) (by kernel_rfl) (by kernel_rfl) (fun _ _ _ h => h) (Or.inl ⟨by kernel_rfl, fun w' hw => by (go_simp)⟩) hS ?_
    refine wpAnyH_take (i := 7) (v := (.pointer (some ⟨p, 0, none⟩))) rfl (by kernel_rfl) (by kernel_rfl) (by kernel_rfl) (fun _ _ _ h => h) (Or.inl ⟨by kernel_rfl, fun w' hw => by (go_simp)⟩) hS ?_
    refine wpAnyH_take (i := 8) (v := (.pointer (some ⟨p, 0, none⟩))) rfl (by kernel_rfl) (by kernel_rfl) (by kernel_rfl) (fun _ _ _ h => h) (Or.inl ⟨by kernel_rfl, fun w' hw => by (go_simp)⟩) hS ?_
    refine wpAnyH_take (i := 9) (v := (.pointer (some ⟨p, 0, none⟩))) rfl (by kernel_rfl) (by kernel_rfl) (by kernel_rfl) (fun _ _ _ h => h) (Or.inl ⟨by kernel_rfl, fun w' hw => by (go_simp)⟩) hS ?_
    refine wpAnyH_take (i := 10) (v := (.pointer (some ⟨b, 0, none⟩))) rfl (by kernel_rfl) (by kernel_rfl) (by kernel_rfl) (fun _ _ _ h => h) (Or.inl ⟨by kernel_rfl, fun w' hw => by (have z0 := hw; go_simp)⟩) hS ?_
    refine wpAnyH_take (i := 11) (v := (.int .i64 (af : Int))) rfl (by kernel_rfl) (by kernel_rfl) (by kernel_rfl) (fun _ _ _ h => h) (Or.inl ⟨by kernel_rfl, fun w' hw => by (go_simp)⟩) hS ?_
    refine wpAnyH_take (i := 12) (v := (.slice ka nk kc)) rfl (by kernel_rfl) (by kernel_rfl) (by kernel_rfl) (fun _ _ _ h => h) (Or.inl ⟨by kernel_rfl, fun w' hw => by (go_simp)⟩) hS ?_
    refine wpAnyH_goS (i := 13) (by kernel_rfl) rfl (by kernel_rfl) (fun K hK => ?_)
    go_wp2_with (go_at_call 9; refine (KCI.out).mono ?_; rintro e W4 ⟨ca, cc, rfl, ho4, hn4, hb4⟩; have HO4 := hide ho4; have HN4 := hide hn4; have HB4 := hide hb4; clear ho4 hn4 hb4)
    obtain ⟨s9a, s9b, karm⟩ := KAR.out W4 ca cc HO4.out HN4.out HB4.out
    have KA4 := hide karm
    clear karm
    refine hK.out _ _ s9a ?_
    clear hK K
    refine wpAnyH_take (i := 14) (v := (.agg #[.int .i64 (af : Int), .slice ca nk cc])) rfl (by kernel_rfl) (by kernel_rfl) (by kernel_rfl) (fun _ _ _ h => h) (Or.inl ⟨by kernel_rfl, fun w' hw => by (go_simp)⟩) s9a ?_
    refine wpAnyH_goS (i := 15) (by kernel_rfl) rfl (by kernel_rfl) (fun K hK => ?_)
    refine wp_slice_arm (.tmp 51) (by kernel_rfl) [.int .i64 (af : Int), .slice ca nk cc] (by kernel_rfl) (by simp) ?_
    refine hK.out _ _ s9b ?_
    clear hK K
    refine wpAnyH_goS (i := 16) (by kernel_rfl) rfl (by kernel_rfl) (fun K hK => ?_)
    go_wp2_with (go_at_call 8; refine (KA4.out).mono ?_; rintro e W6 ⟨rfl, s9c, hc6⟩; have HC6 := hide hc6; clear hc6)
    refine hK.out _ _ s9c ?_
    clear hK K
    refine wpAnyH_take (i := 17) (v := (.bool false)) rfl (by kernel_rfl) (by kernel_rfl) (by kernel_rfl) (fun _ _ _ h => h) (Or.inl ⟨by kernel_rfl, fun w' hw => by (go_simp)⟩) s9c ?_
    refine wpAnyH_take (i := 18) (v := (.bool false)) rfl (by kernel_rfl) (by kernel_rfl) (by kernel_rfl) (fun _ _ _ h => h) (Or.inl ⟨by kernel_rfl, fun w' hw => by (go_simp)⟩) s9c ?_
    refine wpAnyH_done (by kernel_rfl) ?_ _
    simp only [Act.put, List.getElem_toArray, List.getElem_cons_zero, List.getElem_cons_succ, List.setIfInBounds_toArray, List.set_cons_zero, List.set_cons_succ]
    obtain ⟨L6, kp, htw, hkb, hkl, hke⟩ := HC6.out
    have HTW := hide htw
    have HKB := hide hkb
    have HKL := hide hkl
    have HKE := hide hke
    have HLP := hide (HST.out.rel.lens (m := m2) rfl)
    clear htw hkb hkl hke HC6 KA4 KCI KAR S9 s9a s9b s9c HO4 HN4 HB4
    go_wp2_with (fail)
    try go_frame
    go_loopw [10] (fun iv wr => ∃ (i : Nat) (Kp : Kl) (Lp : Lay) (Bp : Bk) (Kq : Kl) (Lq : Lay) (Bq : Bk) (σ : St), iv = .int .i64 (i : Int) ∧ i ≤ ns ∧ Two V wr p b Kp Lp Bp (twin σ af kp) q d Kq Lq Bq σ ∧ StepOk Bq σ ∧ Lens Bp m2 ∧ σ.n = m2 ∧ σ.ops ≤ i ∧ σ.ops < af ∧ (∀ l ∈ Bp.held, l.length ≤ i + 1) ∧ (∀ l ∈ Bq.held, l.length ≤ i + 1)) (fun iv _ => (ns - (intOf iv).toNat))
    case atStart => exact ⟨0, K, L6, B, K', L', B', newD m2, rfl, Nat.zero_le _, HTW.out, HSQ.out, HLP.out, rfl, Nat.le_refl _, af1, HCAP.out, HCQ.out⟩
    case round =>
      obtain ⟨i, Kp, Lp, Bp, Kq, Lq, Bq, σ, rfl, hi, htw, hst, hlen, hn, hops, hlt, hcp, hcq⟩ := hrel
      by_cases hin : i < ns
      · have iI : (i : Int) < (ns : Int) := by omega
        have nsI : (ns : Int) ≤ 1353300000000 := by have := HX.out.few; omega
        obtain ⟨s, hs⟩ : ∃ s, xs[i]? = some s := ⟨_, List.getElem?_eq_getElem (by rw [HX.out.len]; exact hin)⟩
        have HSX := hide hs
        have hsok := HX.out.ok s (List.mem_of_getElem? hs)
        obtain ⟨g, off, rfl, _, hcl⟩ := (HX.out.row.below (HWV.out.trans (htw.one.bel.mono HWV.out.size))).at hs
        have d0 := hcl 0 _ rfl
        have d1 := hcl 1 _ rfl
        have d2 := hcl 2 _ rfl
        have d3 := hcl 3 _ rfl
        have d4 := hcl 4 _ rfl
        have d5 := hcl 5 _ rfl
        have d6 := hcl 6 _ rfl
        simp only [Nat.add_zero] at d0
        have ix := fun Y => index_step g off i ns c hin Y
        obtain ⟨o, ho⟩ : ∃ o, opsOf s σ = o := ⟨_, rfl⟩
        have HO := hide ho
        have HLB := hide hlen
        have HCP := hide hcp
        have HCQ2 := hide hcq
        have hole : o ≤ af := by
          rw [← ho]
          unfold opsOf
          split <;> omega
        clear hcl hs ho
        by_cases hoa : o < af
        · have kp7 : Calls Try.prog 10 #[.pointer (some ⟨p, 0, none⟩), .agg #[.int .i64 s.k, .int .i64 s.a, .int .i64 s.n, .int .u64 (s.v : Int), .slice s.da s.dl s.dc, .slice s.ka s.kl s.kc, .slice s.aa s.al s.ac]] wr fun e W7 => e = .returned (.bool true) ∧ ∃ K1 L1 σ1, StepD s (8 * m2) (twin σ af kp) 0 σ1 ∧ Two V W7 p b K1 L1 (stB s (8 * m2) Bp) σ1 q d Kq Lq Bq σ := by
            refine (two_play (k := i) s hsok htw (twin_ok hst.ok) hst.off ⟨.inr ⟨af, kp, rfl, HKB.out, by have := HKL.out; omega⟩, by show σ.ops < _; omega⟩ hops hops (by have := HX.out.few; omega) hn hm1 (by omega) hlen hcp).mono ?_
            rintro e W7 ⟨c5, K1, L1, σ1, rfl, q1, q2, _⟩
            obtain rfl : c5 = 0 := (twin_code hst.arms hst.cnt q1 hlt).1 (by rw [HO.out]; exact hoa)
            exact ⟨rfl, K1, L1, σ1, q1, q2⟩
          have KP7 := hide kp7
          clear kp7
          go_upto_region 15 with (go_at_call 10; refine (KP7.out).mono ?_; rintro e W7 ⟨rfl, K1, L1, σ1, hsd, htw7⟩; have HSD := hide hsd; have HTW7 := hide htw7; clear hsd htw7)
          have rowW : ∀ Y, Below V.heap.size V Y → ∀ j v, s.vals.toList[j]? = some v → Y.cell? ⟨g, off + i * 7 + j, none⟩ = some v := fun Y hY => by
            obtain ⟨g2, off2, e2, _, hcl2⟩ := (HX.out.row.below (HWV.out.trans (hY.mono HWV.out.size))).at HSX.out
            cases e2
            exact hcl2
          have sY : ∀ Y K1 L1 B1 τ1 K2 L2 B2 τ2, Two V Y p b K1 L1 B1 τ1 q d K2 L2 B2 τ2 → Y.cell? ⟨g, off + i * 7, none⟩ = some (.int .i64 s.k) ∧ Y.cell? ⟨g, off + i * 7 + 1, none⟩ = some (.int .i64 s.a) ∧ Y.cell? ⟨g, off + i * 7 + 2, none⟩ = some (.int .i64 s.n) ∧ Y.cell? ⟨g, off + i * 7 + 3, none⟩ = some (.int .u64 (s.v : Int)) ∧ Y.cell? ⟨g, off + i * 7 + 4, none⟩ = some (.slice s.da s.dl s.dc) ∧ Y.cell? ⟨g, off + i * 7 + 5, none⟩ = some (.slice s.ka s.kl s.kc) ∧ Y.cell? ⟨g, off + i * 7 + 6, none⟩ = some (.slice s.aa s.al s.ac) ∧ Y.cell? ⟨p, 0, none⟩ = some (.pointer (some ⟨b, 0, none⟩)) ∧ Y.cell? ⟨q, 0, none⟩ = some (.pointer (some ⟨d, 0, none⟩)) := fun Y K1 L1 B1 τ1 K2 L2 B2 τ2 ht => by
            have hc := rowW Y ht.one.bel
            exact ⟨by simpa using hc 0 _ rfl, hc 1 _ rfl, hc 2 _ rfl, hc 3 _ rfl, hc 4 _ rfl, hc 5 _ rfl, hc 6 _ rfl, ht.one.pl.c 0, ht.two.pl.c 0⟩
          have kq8 : Calls Try.prog 10 #[.pointer (some ⟨q, 0, none⟩), .agg #[.int .i64 s.k, .int .i64 s.a, .int .i64 s.n, .int .u64 (s.v : Int), .slice s.da s.dl s.dc, .slice s.ka s.kl s.kc, .slice s.aa s.al s.ac]] W7.drew fun e W8 => e = .returned (.bool true) ∧ (W8.cell? ⟨g, off + i * 7, none⟩ = some (.int .i64 s.k) ∧ W8.cell? ⟨g, off + i * 7 + 1, none⟩ = some (.int .i64 s.a) ∧ W8.cell? ⟨g, off + i * 7 + 2, none⟩ = some (.int .i64 s.n) ∧ W8.cell? ⟨g, off + i * 7 + 3, none⟩ = some (.int .u64 (s.v : Int)) ∧ W8.cell? ⟨g, off + i * 7 + 4, none⟩ = some (.slice s.da s.dl s.dc) ∧ W8.cell? ⟨g, off + i * 7 + 5, none⟩ = some (.slice s.ka s.kl s.kc) ∧ W8.cell? ⟨g, off + i * 7 + 6, none⟩ = some (.slice s.aa s.al s.ac) ∧ W8.cell? ⟨p, 0, none⟩ = some (.pointer (some ⟨b, 0, none⟩)) ∧ W8.cell? ⟨q, 0, none⟩ = some (.pointer (some ⟨d, 0, none⟩))) ∧ ∃ K2 L2 σ', Two V W8 p b K1 L1 (stB s (8 * m2) Bp) σ1 q d K2 L2 (stB s (8 * m2) Bq) σ' ∧ StepOk (stB s (8 * m2) Bq) σ' ∧ σ'.n = m2 ∧ σ'.ops = o ∧ σ1.ops = o ∧ σ'.ops ≤ i + 1 ∧ σ1 = twin σ' af kp := by
            have ht7 : Two V W7.drew p b K1 L1 (stB s (8 * m2) Bp) σ1 q d Kq Lq Bq σ := HTW7.out.below (Below.refl _ W7).drew
            refine (two_play (k := i) s hsok ht7.swap hst.ok hst.off ⟨.inl hst.arms, by rw [hst.cnt]; omega⟩ (by rw [hst.cnt]; omega) hops (by have := HX.out.few; omega) hn hm1 (by omega) (hst.rel.lens hn) hcq).mono ?_
            rintro e W8 ⟨c5, K2, L2, σ', rfl, q1, q2, _⟩
            obtain ⟨rfl, t1, t2, t3⟩ := hst.step (by rw [hn]) hsok.v (by have := HX.out.few; omega) q1
            have e1 : σ'.ops = o := q1.ops.trans HO.out
            have e2 : σ1.ops = o := HSD.out.ops.trans HO.out
            have hts := (twin_step hst.arms hst.cnt q1 HSD.out hlt).2
            exact ⟨rfl, sY W8 _ _ _ _ _ _ _ _ q2.swap, K2, L2, σ', q2.swap, t1, t2.trans hn, e1, e2, by omega, by
              rcases hts with ⟨_, _, r3⟩ | ⟨r1, _, _⟩
              · exact r3
              · omega⟩
          have kops : ∀ W8, (∃ K2 L2 σ', Two V W8 p b K1 L1 (stB s (8 * m2) Bp) σ1 q d K2 L2 (stB s (8 * m2) Bq) σ' ∧ StepOk (stB s (8 * m2) Bq) σ' ∧ σ'.n = m2 ∧ σ'.ops = o ∧ σ1.ops = o ∧ σ'.ops ≤ i + 1 ∧ σ1 = twin σ' af kp) → (Calls Try.prog 11 #[.pointer (some ⟨b, 0, none⟩)] W8 fun e w' => e = .returned (.int .i64 (o : Int)) ∧ w' = W8) ∧ (Calls Try.prog 11 #[.pointer (some ⟨d, 0, none⟩)] W8 fun e w' => e = .returned (.int .i64 (o : Int)) ∧ w' = W8) := fun W8 ⟨K2, L2, σ', t1, t2, t3, t4, t5, _⟩ => by
            have h1 := pops_any t1.one.dev
            have h2 := pops_any t1.two.dev
            rw [t5] at h1
            rw [t4] at h2
            exact ⟨h1, h2⟩
          have KQ := hide kq8
          have KOPS := hide kops
          have S15 := hide (sY W7.drew _ _ _ _ _ _ _ _ (HTW7.out.below (Below.refl _ W7).drew))
          have IXS := hide (fun Y => index_step g off i ns c hin Y)
          clear kq8 kops sY rowW htw hst d0 d1 d2 d3 d4 d5 d6 ix hcp hcq HSD HTW7
          go_wp2_with (fail)
          refine wp_region_held_drew (S := fun Y => Y.cell? ⟨g, off + i * 7, none⟩ = some (.int .i64 s.k) ∧ Y.cell? ⟨g, off + i * 7 + 1, none⟩ = some (.int .i64 s.a) ∧ Y.cell? ⟨g, off + i * 7 + 2, none⟩ = some (.int .i64 s.n) ∧ Y.cell? ⟨g, off + i * 7 + 3, none⟩ = some (.int .u64 (s.v : Int)) ∧ Y.cell? ⟨g, off + i * 7 + 4, none⟩ = some (.slice s.da s.dl s.dc) ∧ Y.cell? ⟨g, off + i * 7 + 5, none⟩ = some (.slice s.ka s.kl s.kc) ∧ Y.cell? ⟨g, off + i * 7 + 6, none⟩ = some (.slice s.aa s.al s.ac) ∧ Y.cell? ⟨p, 0, none⟩ = some (.pointer (some ⟨b, 0, none⟩)) ∧ Y.cell? ⟨q, 0, none⟩ = some (.pointer (some ⟨d, 0, none⟩))) (by kernel_rfl) S15.out (fun hS => ?_)
          refine wpAnyH_take (i := 0) (v := (.pointer (some ⟨q, 0, none⟩))) rfl (by kernel_rfl) (by kernel_rfl) (by kernel_rfl) (fun _ _ _ h => h) (Or.inl ⟨by kernel_rfl, fun w' hw => by (go_simp)⟩) hS ?_
          refine wpAnyH_take (i := 1) (v := (.slice (some ⟨g, off, none⟩) ns c)) rfl (by kernel_rfl) (by kernel_rfl) (by kernel_rfl) (fun _ _ _ h => h) (Or.inl ⟨by kernel_rfl, fun w' hw => by (go_simp)⟩) hS ?_
          refine wpAnyH_take (i := 2) (v := (.int .i64 (i : Int))) rfl (by kernel_rfl) (by kernel_rfl) (by kernel_rfl) (fun _ _ _ h => h) (Or.inl ⟨by kernel_rfl, fun w' hw => by (go_simp)⟩) hS ?_
          refine wpAnyH_take (i := 3) (v := (.pointer (some ⟨g, off + i * 7, none⟩))) rfl (by kernel_rfl) (by kernel_rfl) (by kernel_rfl) (fun _ _ _ h => h) (Or.inl ⟨by kernel_rfl, fun w' hw => by (have e := IXS.out w'; go_simp)⟩) hS ?_
          refine wpAnyH_take (i := 4) (v := (.agg #[.int .i64 s.k, .int .i64 s.a, .int .i64 s.n, .int .u64 (s.v : Int), .slice s.da s.dl s.dc, .slice s.ka s.kl s.kc, .slice s.aa s.al s.ac])) rfl (by kernel_rfl) (by kernel_rfl) (by kernel_rfl) (fun _ _ _ h => h) (Or.inl ⟨by kernel_rfl, fun w' hw => by (obtain ⟨z0, z1, z2, z3, z4, z5, z6, z7, z8⟩ := hw; go_simp)⟩) hS ?_
          refine wpAnyH_goS (i := 5) (by kernel_rfl) rfl (by kernel_rfl) (fun K hK => ?_)
          go_wp2_with (go_at_call 10; refine (KQ.out).mono ?_; rintro e W8 ⟨rfl, s15b, hq8⟩; have HQ8 := hide hq8; clear hq8)
          refine hK.out _ _ s15b ?_
          clear hK K
          obtain ⟨kop, koq⟩ := KOPS.out W8 HQ8.out
          have KOP := hide kop
          have KOQ := hide koq
          clear kop koq
          refine wpAnyH_take (i := 6) (v := (.bool false)) rfl (by kernel_rfl) (by kernel_rfl) (by kernel_rfl) (fun _ _ _ h => h) (Or.inl ⟨by kernel_rfl, fun w' hw => by (go_simp)⟩) s15b ?_
          refine wpAnyH_take (i := 7) (v := (.bool false)) rfl (by kernel_rfl) (by kernel_rfl) (by kernel_rfl) (fun _ _ _ h => h) (Or.inl ⟨by kernel_rfl, fun w' hw => by (go_simp)⟩) s15b ?_
          refine wpAnyH_take (i := 8) (v := (.pointer (some ⟨p, 0, none⟩))) rfl (by kernel_rfl) (by kernel_rfl) (by kernel_rfl) (fun _ _ _ h => h) (Or.inl ⟨by kernel_rfl, fun w' hw => by (go_simp)⟩) s15b ?_
          refine wpAnyH_take (i := 9) (v := (.pointer (some ⟨p, 0, none⟩))) rfl (by kernel_rfl) (by kernel_rfl) (by kernel_rfl) (fun _ _ _ h => h) (Or.inl ⟨by kernel_rfl, fun w' hw => by (go_simp)⟩) s15b ?_
          refine wpAnyH_take (i := 10) (v := (.pointer (some ⟨p, 0, none⟩))) rfl (by kernel_rfl) (by kernel_rfl) (by kernel_rfl) (fun _ _ _ h => h) (Or.inl ⟨by kernel_rfl, fun w' hw => by (go_simp)⟩) s15b ?_
          refine wpAnyH_take (i := 11) (v := (.pointer (some ⟨b, 0, none⟩))) rfl (by kernel_rfl) (by kernel_rfl) (by kernel_rfl) (fun _ _ _ h => h) (Or.inl ⟨by kernel_rfl, fun w' hw => by (obtain ⟨z0, z1, z2, z3, z4, z5, z6, z7, z8⟩ := hw; go_simp)⟩) s15b ?_
          refine wpAnyH_take (i := 13) (v := (.pointer (some ⟨q, 0, none⟩))) rfl (by kernel_rfl) (by kernel_rfl) (by kernel_rfl) (fun _ _ _ h => h) (Or.inl ⟨by kernel_rfl, fun w' hw => by (go_simp)⟩) s15b ?_
          refine wpAnyH_take (i := 14) (v := (.pointer (some ⟨q, 0, none⟩))) rfl (by kernel_rfl) (by kernel_rfl) (by kernel_rfl) (fun _ _ _ h => h) (Or.inl ⟨by kernel_rfl, fun w' hw => by (go_simp)⟩) s15b ?_
          refine wpAnyH_take (i := 15) (v := (.pointer (some ⟨q, 0, none⟩))) rfl (by kernel_rfl) (by kernel_rfl) (by kernel_rfl) (fun _ _ _ h => h) (Or.inl ⟨by kernel_rfl, fun w' hw => by (go_simp)⟩) s15b ?_
          refine wpAnyH_take (i := 16) (v := (.pointer (some ⟨d, 0, none⟩))) rfl (by kernel_rfl) (by kernel_rfl) (by kernel_rfl) (fun _ _ _ h => h) (Or.inl ⟨by kernel_rfl, fun w' hw => by (obtain ⟨z0, z1, z2, z3, z4, z5, z6, z7, z8⟩ := hw; go_simp)⟩) s15b ?_
          refine wpAnyH_goS (i := 12) (by kernel_rfl) rfl (by kernel_rfl) (fun K hK => ?_)
          go_wp2_with (go_at_call 11; refine (KOP.out).mono ?_; rintro e w' ⟨rfl, hw⟩; obtain rfl := hw.symm)
          refine hK.out _ _ s15b ?_
          clear hK K
          refine wpAnyH_goS (i := 17) (by kernel_rfl) rfl (by kernel_rfl) (fun K hK => ?_)
          go_wp2_with (go_at_call 11; refine (KOQ.out).mono ?_; rintro e w' ⟨rfl, hw⟩; obtain rfl := hw.symm)
          refine hK.out _ _ s15b ?_
          clear hK K
          refine wpAnyH_take (i := 18) (v := (.bool false)) rfl (by kernel_rfl) (by kernel_rfl) (by kernel_rfl) (fun _ _ _ h => h) (Or.inl ⟨by kernel_rfl, fun w' hw => by (go_simp)⟩) s15b ?_
          refine wpAnyH_take (i := 19) (v := (.bool false)) rfl (by kernel_rfl) (by kernel_rfl) (by kernel_rfl) (fun _ _ _ h => h) (Or.inl ⟨by kernel_rfl, fun w' hw => by (go_simp)⟩) s15b ?_
          refine wpAnyH_done (by kernel_rfl) ?_ _
          simp only [Act.put, List.getElem_toArray, List.getElem_cons_zero, List.getElem_cons_succ, List.setIfInBounds_toArray, List.set_cons_zero, List.set_cons_succ]
          obtain ⟨K2, L2, σ', htw8, hst8, hn8, ho8, ho1, hops8, hres⟩ := HQ8.out
          subst hres
          have kof := poff_any htw8.one.dev
          rw [show (twin σ' af kp).off = false from hst8.off] at kof
          have KOF := hide kof
          have c0p : W8.cell? ⟨p, 0, none⟩ = some (.pointer (some ⟨b, 0, none⟩)) := htw8.one.pl.c 0
          have c0q : W8.cell? ⟨q, 0, none⟩ = some (.pointer (some ⟨d, 0, none⟩)) := htw8.two.pl.c 0
          have oaI : ¬ (o : Int) = (af : Int) := by omega
          have HT8 := hide htw8
          have HS8 := hide hst8
          have HF8 := hide (And.intro hn8 (And.intro ho8 hops8))
          clear kof htw8 hst8 hn8 ho8 ho1 hops8 HQ8 KQ KOPS S15 s15b
          go_wp2_with (first
            | (go_at_call 11; refine (KOQ.out).mono ?_; rintro e w' ⟨rfl, hw⟩; obtain rfl := hw.symm)
            | (go_at_call 18; refine (KOF.out).mono ?_; rintro e w' ⟨rfl, hw⟩; obtain rfl := hw.symm))
          go_roundw
          case rel =>
            obtain ⟨t1, t2, t3⟩ := HF8.out
            exact ⟨i + 1, K1, L1, _, K2, L2, _, σ', int_congrP (by omega), by omega, HT8.out, HS8.out, HLB.out.step s, t1, t3, by omega, stB_held HCP.out, stB_held HCQ2.out⟩
          case measure => simp [intOf]; omega
        · have kp7 : Calls Try.prog 10 #[.pointer (some ⟨p, 0, none⟩), .agg #[.int .i64 s.k, .int .i64 s.a, .int .i64 s.n, .int .u64 (s.v : Int), .slice s.da s.dl s.dc, .slice s.ka s.kl s.kc, .slice s.aa s.al s.ac]] wr fun e W7 => e = .returned (.bool false) ∧ ∃ K1 L1 σ1, StepD s (8 * m2) (twin σ af kp) 5 σ1 ∧ Two V W7 p b K1 L1 (stB s (8 * m2) Bp) σ1 q d Kq Lq Bq σ := by
            refine (two_play (k := i) s hsok htw (twin_ok hst.ok) hst.off ⟨.inr ⟨af, kp, rfl, HKB.out, by have := HKL.out; omega⟩, by show σ.ops < _; omega⟩ hops hops (by have := HX.out.few; omega) hn hm1 (by omega) hlen hcp).mono ?_
            rintro e W7 ⟨c5, K1, L1, σ1, rfl, q1, q2, _⟩
            obtain rfl : c5 = 5 := (twin_code hst.arms hst.cnt q1 hlt).2 (by rw [HO.out]; omega)
            exact ⟨rfl, K1, L1, σ1, q1, q2⟩
          have KP7 := hide kp7
          clear kp7
          go_upto_region 15 with (go_at_call 10; refine (KP7.out).mono ?_; rintro e W7 ⟨rfl, K1, L1, σ1, hsd, htw7⟩; have HSD := hide hsd; have HTW7 := hide htw7; clear hsd htw7)
          have rowW : ∀ Y, Below V.heap.size V Y → ∀ j v, s.vals.toList[j]? = some v → Y.cell? ⟨g, off + i * 7 + j, none⟩ = some v := fun Y hY => by
            obtain ⟨g2, off2, e2, _, hcl2⟩ := (HX.out.row.below (HWV.out.trans (hY.mono HWV.out.size))).at HSX.out
            cases e2
            exact hcl2
          have sY : ∀ Y K1 L1 B1 τ1 K2 L2 B2 τ2, Two V Y p b K1 L1 B1 τ1 q d K2 L2 B2 τ2 → Y.cell? ⟨g, off + i * 7, none⟩ = some (.int .i64 s.k) ∧ Y.cell? ⟨g, off + i * 7 + 1, none⟩ = some (.int .i64 s.a) ∧ Y.cell? ⟨g, off + i * 7 + 2, none⟩ = some (.int .i64 s.n) ∧ Y.cell? ⟨g, off + i * 7 + 3, none⟩ = some (.int .u64 (s.v : Int)) ∧ Y.cell? ⟨g, off + i * 7 + 4, none⟩ = some (.slice s.da s.dl s.dc) ∧ Y.cell? ⟨g, off + i * 7 + 5, none⟩ = some (.slice s.ka s.kl s.kc) ∧ Y.cell? ⟨g, off + i * 7 + 6, none⟩ = some (.slice s.aa s.al s.ac) ∧ Y.cell? ⟨p, 0, none⟩ = some (.pointer (some ⟨b, 0, none⟩)) ∧ Y.cell? ⟨q, 0, none⟩ = some (.pointer (some ⟨d, 0, none⟩)) := fun Y K1 L1 B1 τ1 K2 L2 B2 τ2 ht => by
            have hc := rowW Y ht.one.bel
            exact ⟨by simpa using hc 0 _ rfl, hc 1 _ rfl, hc 2 _ rfl, hc 3 _ rfl, hc 4 _ rfl, hc 5 _ rfl, hc 6 _ rfl, ht.one.pl.c 0, ht.two.pl.c 0⟩
          have kq8 : Calls Try.prog 10 #[.pointer (some ⟨q, 0, none⟩), .agg #[.int .i64 s.k, .int .i64 s.a, .int .i64 s.n, .int .u64 (s.v : Int), .slice s.da s.dl s.dc, .slice s.ka s.kl s.kc, .slice s.aa s.al s.ac]] W7.drew fun e W8 => e = .returned (.bool true) ∧ (W8.cell? ⟨g, off + i * 7, none⟩ = some (.int .i64 s.k) ∧ W8.cell? ⟨g, off + i * 7 + 1, none⟩ = some (.int .i64 s.a) ∧ W8.cell? ⟨g, off + i * 7 + 2, none⟩ = some (.int .i64 s.n) ∧ W8.cell? ⟨g, off + i * 7 + 3, none⟩ = some (.int .u64 (s.v : Int)) ∧ W8.cell? ⟨g, off + i * 7 + 4, none⟩ = some (.slice s.da s.dl s.dc) ∧ W8.cell? ⟨g, off + i * 7 + 5, none⟩ = some (.slice s.ka s.kl s.kc) ∧ W8.cell? ⟨g, off + i * 7 + 6, none⟩ = some (.slice s.aa s.al s.ac) ∧ W8.cell? ⟨p, 0, none⟩ = some (.pointer (some ⟨b, 0, none⟩)) ∧ W8.cell? ⟨q, 0, none⟩ = some (.pointer (some ⟨d, 0, none⟩))) ∧ ∃ K2 L2 σ', Two V W8 p b K1 L1 (stB s (8 * m2) Bp) σ1 q d K2 L2 (stB s (8 * m2) Bq) σ' ∧ StepOk (stB s (8 * m2) Bq) σ' ∧ σ'.n = m2 ∧ σ'.ops = o ∧ σ1.ops = o ∧ σ'.ops ≤ i + 1 ∧ Lost σ' kp σ1 := by
            have ht7 : Two V W7.drew p b K1 L1 (stB s (8 * m2) Bp) σ1 q d Kq Lq Bq σ := HTW7.out.below (Below.refl _ W7).drew
            refine (two_play (k := i) s hsok ht7.swap hst.ok hst.off ⟨.inl hst.arms, by rw [hst.cnt]; omega⟩ (by rw [hst.cnt]; omega) hops (by have := HX.out.few; omega) hn hm1 (by omega) (hst.rel.lens hn) hcq).mono ?_
            rintro e W8 ⟨c5, K2, L2, σ', rfl, q1, q2, _⟩
            obtain ⟨rfl, t1, t2, t3⟩ := hst.step (by rw [hn]) hsok.v (by have := HX.out.few; omega) q1
            have e1 : σ'.ops = o := q1.ops.trans HO.out
            have e2 : σ1.ops = o := HSD.out.ops.trans HO.out
            have hts := (twin_step hst.arms hst.cnt q1 HSD.out hlt).2
            exact ⟨rfl, sY W8 _ _ _ _ _ _ _ _ q2.swap, K2, L2, σ', q2.swap, t1, t2.trans hn, e1, e2, by omega, by
              rcases hts with ⟨r1, _, _⟩ | ⟨_, _, r3⟩
              · omega
              · exact r3⟩
          have kops : ∀ W8, (∃ K2 L2 σ', Two V W8 p b K1 L1 (stB s (8 * m2) Bp) σ1 q d K2 L2 (stB s (8 * m2) Bq) σ' ∧ StepOk (stB s (8 * m2) Bq) σ' ∧ σ'.n = m2 ∧ σ'.ops = o ∧ σ1.ops = o ∧ σ'.ops ≤ i + 1 ∧ Lost σ' kp σ1) → (Calls Try.prog 11 #[.pointer (some ⟨b, 0, none⟩)] W8 fun e w' => e = .returned (.int .i64 (o : Int)) ∧ w' = W8) ∧ (Calls Try.prog 11 #[.pointer (some ⟨d, 0, none⟩)] W8 fun e w' => e = .returned (.int .i64 (o : Int)) ∧ w' = W8) := fun W8 ⟨K2, L2, σ', t1, t2, t3, t4, t5, _⟩ => by
            have h1 := pops_any t1.one.dev
            have h2 := pops_any t1.two.dev
            rw [t5] at h1
            rw [t4] at h2
            exact ⟨h1, h2⟩
          have KQ := hide kq8
          have KOPS := hide kops
          have S15 := hide (sY W7.drew _ _ _ _ _ _ _ _ (HTW7.out.below (Below.refl _ W7).drew))
          have IXS := hide (fun Y => index_step g off i ns c hin Y)
          clear kq8 kops sY rowW htw hst d0 d1 d2 d3 d4 d5 d6 ix hcp hcq HSD HTW7
          go_wp2_with (fail)
          refine wp_region_held_drew (S := fun Y => Y.cell? ⟨g, off + i * 7, none⟩ = some (.int .i64 s.k) ∧ Y.cell? ⟨g, off + i * 7 + 1, none⟩ = some (.int .i64 s.a) ∧ Y.cell? ⟨g, off + i * 7 + 2, none⟩ = some (.int .i64 s.n) ∧ Y.cell? ⟨g, off + i * 7 + 3, none⟩ = some (.int .u64 (s.v : Int)) ∧ Y.cell? ⟨g, off + i * 7 + 4, none⟩ = some (.slice s.da s.dl s.dc) ∧ Y.cell? ⟨g, off + i * 7 + 5, none⟩ = some (.slice s.ka s.kl s.kc) ∧ Y.cell? ⟨g, off + i * 7 + 6, none⟩ = some (.slice s.aa s.al s.ac) ∧ Y.cell? ⟨p, 0, none⟩ = some (.pointer (some ⟨b, 0, none⟩)) ∧ Y.cell? ⟨q, 0, none⟩ = some (.pointer (some ⟨d, 0, none⟩))) (by kernel_rfl) S15.out (fun hS => ?_)
          refine wpAnyH_take (i := 0) (v := (.pointer (some ⟨q, 0, none⟩))) rfl (by kernel_rfl) (by kernel_rfl) (by kernel_rfl) (fun _ _ _ h => h) (Or.inl ⟨by kernel_rfl, fun w' hw => by (go_simp)⟩) hS ?_
          refine wpAnyH_take (i := 1) (v := (.slice (some ⟨g, off, none⟩) ns c)) rfl (by kernel_rfl) (by kernel_rfl) (by kernel_rfl) (fun _ _ _ h => h) (Or.inl ⟨by kernel_rfl, fun w' hw => by (go_simp)⟩) hS ?_
          refine wpAnyH_take (i := 2) (v := (.int .i64 (i : Int))) rfl (by kernel_rfl) (by kernel_rfl) (by kernel_rfl) (fun _ _ _ h => h) (Or.inl ⟨by kernel_rfl, fun w' hw => by (go_simp)⟩) hS ?_
          refine wpAnyH_take (i := 3) (v := (.pointer (some ⟨g, off + i * 7, none⟩))) rfl (by kernel_rfl) (by kernel_rfl) (by kernel_rfl) (fun _ _ _ h => h) (Or.inl ⟨by kernel_rfl, fun w' hw => by (have e := IXS.out w'; go_simp)⟩) hS ?_
          refine wpAnyH_take (i := 4) (v := (.agg #[.int .i64 s.k, .int .i64 s.a, .int .i64 s.n, .int .u64 (s.v : Int), .slice s.da s.dl s.dc, .slice s.ka s.kl s.kc, .slice s.aa s.al s.ac])) rfl (by kernel_rfl) (by kernel_rfl) (by kernel_rfl) (fun _ _ _ h => h) (Or.inl ⟨by kernel_rfl, fun w' hw => by (obtain ⟨z0, z1, z2, z3, z4, z5, z6, z7, z8⟩ := hw; go_simp)⟩) hS ?_
          refine wpAnyH_goS (i := 5) (by kernel_rfl) rfl (by kernel_rfl) (fun K hK => ?_)
          go_wp2_with (go_at_call 10; refine (KQ.out).mono ?_; rintro e W8 ⟨rfl, s15b, hq8⟩; have HQ8 := hide hq8; clear hq8)
          refine hK.out _ _ s15b ?_
          clear hK K
          obtain ⟨kop, koq⟩ := KOPS.out W8 HQ8.out
          have KOP := hide kop
          have KOQ := hide koq
          clear kop koq
          refine wpAnyH_take (i := 6) (v := (.bool false)) rfl (by kernel_rfl) (by kernel_rfl) (by kernel_rfl) (fun _ _ _ h => h) (Or.inl ⟨by kernel_rfl, fun w' hw => by (go_simp)⟩) s15b ?_
          refine wpAnyH_take (i := 7) (v := (.bool false)) rfl (by kernel_rfl) (by kernel_rfl) (by kernel_rfl) (fun _ _ _ h => h) (Or.inl ⟨by kernel_rfl, fun w' hw => by (go_simp)⟩) s15b ?_
          refine wpAnyH_take (i := 8) (v := (.pointer (some ⟨p, 0, none⟩))) rfl (by kernel_rfl) (by kernel_rfl) (by kernel_rfl) (fun _ _ _ h => h) (Or.inl ⟨by kernel_rfl, fun w' hw => by (go_simp)⟩) s15b ?_
          refine wpAnyH_take (i := 9) (v := (.pointer (some ⟨p, 0, none⟩))) rfl (by kernel_rfl) (by kernel_rfl) (by kernel_rfl) (fun _ _ _ h => h) (Or.inl ⟨by kernel_rfl, fun w' hw => by (go_simp)⟩) s15b ?_
          refine wpAnyH_take (i := 10) (v := (.pointer (some ⟨p, 0, none⟩))) rfl (by kernel_rfl) (by kernel_rfl) (by kernel_rfl) (fun _ _ _ h => h) (Or.inl ⟨by kernel_rfl, fun w' hw => by (go_simp)⟩) s15b ?_
          refine wpAnyH_take (i := 11) (v := (.pointer (some ⟨b, 0, none⟩))) rfl (by kernel_rfl) (by kernel_rfl) (by kernel_rfl) (fun _ _ _ h => h) (Or.inl ⟨by kernel_rfl, fun w' hw => by (obtain ⟨z0, z1, z2, z3, z4, z5, z6, z7, z8⟩ := hw; go_simp)⟩) s15b ?_
          refine wpAnyH_take (i := 13) (v := (.pointer (some ⟨q, 0, none⟩))) rfl (by kernel_rfl) (by kernel_rfl) (by kernel_rfl) (fun _ _ _ h => h) (Or.inl ⟨by kernel_rfl, fun w' hw => by (go_simp)⟩) s15b ?_
          refine wpAnyH_take (i := 14) (v := (.pointer (some ⟨q, 0, none⟩))) rfl (by kernel_rfl) (by kernel_rfl) (by kernel_rfl) (fun _ _ _ h => h) (Or.inl ⟨by kernel_rfl, fun w' hw => by (go_simp)⟩) s15b ?_
          refine wpAnyH_take (i := 15) (v := (.pointer (some ⟨q, 0, none⟩))) rfl (by kernel_rfl) (by kernel_rfl) (by kernel_rfl) (fun _ _ _ h => h) (Or.inl ⟨by kernel_rfl, fun w' hw => by (go_simp)⟩) s15b ?_
          refine wpAnyH_take (i := 16) (v := (.pointer (some ⟨d, 0, none⟩))) rfl (by kernel_rfl) (by kernel_rfl) (by kernel_rfl) (fun _ _ _ h => h) (Or.inl ⟨by kernel_rfl, fun w' hw => by (obtain ⟨z0, z1, z2, z3, z4, z5, z6, z7, z8⟩ := hw; go_simp)⟩) s15b ?_
          refine wpAnyH_goS (i := 12) (by kernel_rfl) rfl (by kernel_rfl) (fun K hK => ?_)
          go_wp2_with (go_at_call 11; refine (KOP.out).mono ?_; rintro e w' ⟨rfl, hw⟩; obtain rfl := hw.symm)
          refine hK.out _ _ s15b ?_
          clear hK K
          refine wpAnyH_goS (i := 17) (by kernel_rfl) rfl (by kernel_rfl) (fun K hK => ?_)
          go_wp2_with (go_at_call 11; refine (KOQ.out).mono ?_; rintro e w' ⟨rfl, hw⟩; obtain rfl := hw.symm)
          refine hK.out _ _ s15b ?_
          clear hK K
          refine wpAnyH_take (i := 18) (v := (.bool false)) rfl (by kernel_rfl) (by kernel_rfl) (by kernel_rfl) (fun _ _ _ h => h) (Or.inl ⟨by kernel_rfl, fun w' hw => by (go_simp)⟩) s15b ?_
          refine wpAnyH_take (i := 19) (v := (.bool false)) rfl (by kernel_rfl) (by kernel_rfl) (by kernel_rfl) (fun _ _ _ h => h) (Or.inl ⟨by kernel_rfl, fun w' hw => by (go_simp)⟩) s15b ?_
          refine wpAnyH_done (by kernel_rfl) ?_ _
          simp only [Act.put, List.getElem_toArray, List.getElem_cons_zero, List.getElem_cons_succ, List.setIfInBounds_toArray, List.set_cons_zero, List.set_cons_succ]
          obtain ⟨K2, L2, σ', htw8, hst8, hn8, ho8, ho1, hops8, hres⟩ := HQ8.out
          have hoe : o = af := by omega
          have c0q : W8.cell? ⟨q, 0, none⟩ = some (.pointer (some ⟨d, 0, none⟩)) := htw8.two.pl.c 0
          have ok1 : σ1.Ok := Lost.ok hst8.ok hres
          have n1 : σ1.n = m2 := hres.n.trans hn8
          have ht8 : Two V W8.drew p b K1 L1 (stB s (8 * m2) Bp) σ1 q d K2 L2 (stB s (8 * m2) Bq) σ' := htw8.below (Below.refl _ W8).drew
          have KOFF := hide (off_any ht8.one.dev ok1 hres.off)
          have S18 := hide (show W8.drew.cell? ⟨p, 0, none⟩ = some (.pointer (some ⟨b, 0, none⟩)) ∧ W8.drew.cell? ⟨q, 0, none⟩ = some (.pointer (some ⟨d, 0, none⟩)) from ⟨ht8.one.pl.c 0, ht8.two.pl.c 0⟩)
          have nxa : ∀ WA, Below W8.drew.heap.size W8.drew WA → (WA.cell? ⟨p, 0, none⟩ = some (.pointer (some ⟨b, 0, none⟩)) ∧ WA.cell? ⟨q, 0, none⟩ = some (.pointer (some ⟨d, 0, none⟩))) ∧ Calls Try.prog 9 #[.slice ka nk kc] WA fun e WB => ∃ ca cc, e = .returned (.slice ca nk cc) ∧ (WB.cell? ⟨p, 0, none⟩ = some (.pointer (some ⟨b, 0, none⟩)) ∧ WB.cell? ⟨q, 0, none⟩ = some (.pointer (some ⟨d, 0, none⟩))) ∧ Calls Try.prog 13 #[.pointer (some ⟨d, 0, none⟩), .slice ca nk cc] WB fun e WC => e = .returned (.int .i64 0) ∧ (WC.cell? ⟨p, 0, none⟩ = some (.pointer (some ⟨b, 0, none⟩)) ∧ WC.cell? ⟨q, 0, none⟩ = some (.pointer (some ⟨d, 0, none⟩))) ∧ (∃ L3 σ3, Two V WC p b K1 L1 (stB s (8 * m2) Bp) σ1 q d K2 L3 (stB s (8 * m2) Bq) σ3) ∧ Calls Try.prog 15 #[.pointer (some ⟨b, 0, none⟩)] WC fun e WD => e = .returned (.slice (some ⟨WC.heap.size, 0, none⟩) (64 * m2) (64 * m2)) ∧ (WD.cell? ⟨p, 0, none⟩ = some (.pointer (some ⟨b, 0, none⟩)) ∧ WD.cell? ⟨q, 0, none⟩ = some (.pointer (some ⟨d, 0, none⟩))) ∧
                Calls Try.prog 15 #[.pointer (some ⟨d, 0, none⟩)] WD fun e WE => e = .returned (.slice (some ⟨WD.heap.size, 0, none⟩) (64 * m2) (64 * m2)) ∧ (WE.cell? ⟨p, 0, none⟩ = some (.pointer (some ⟨b, 0, none⟩)) ∧ WE.cell? ⟨q, 0, none⟩ = some (.pointer (some ⟨d, 0, none⟩))) ∧
                  Calls Try.prog 14 #[.slice (some ⟨WC.heap.size, 0, none⟩) (64 * m2) (64 * m2), .slice (some ⟨WD.heap.size, 0, none⟩) (64 * m2) (64 * m2)] WE fun e WF => e = .returned (.bool true) ∧ (WF.cell? ⟨p, 0, none⟩ = some (.pointer (some ⟨b, 0, none⟩)) ∧ WF.cell? ⟨q, 0, none⟩ = some (.pointer (some ⟨d, 0, none⟩))) ∧ Below WC.heap.size WC WF := fun WA hA => by
            have tA := ht8.below hA
            refine ⟨⟨tA.one.pl.c 0, tA.two.pl.c 0⟩, (copyInts_any kc nk (HZ2.out.below tA.one.bel) HNK.out (by omega)).mono ?_⟩
            rintro e WB ⟨ca, cc, rfl, q1, q2⟩
            have tB := tA.below q2
            refine ⟨ca, cc, rfl, ⟨tB.one.pl.c 0, tB.two.pl.c 0⟩, ?_⟩
            have hk := q1.slN HNK.out HZ2.out.1 HNG.out
            have hc := pcrash_any cc tB.two.dev hst8.ok hst8.off hk (by rw [List.length_map, HNK.out]; omega)
            rw [List.length_map, HNK.out] at hc
            refine hc.mono ?_
            rintro e WC ⟨rfl, L3, σ3, r1, r2, r3, r4, r5⟩
            have hsub : ∀ k, (k = d ∨ k = L2.sb) → Foot d L2 σ' k := fun k hk => hk.elim (fun e => .inl e) (fun e => .inr (.inl e))
            have hpq : PlL WC q d K2 (stB s (8 * m2) Bq) := tB.two.pl.gr r4 (fun k hk hx => tB.two.dis k hk (hsub k hx))
            have tC := (tB.swap.step r2 (by rw [r1.ops]; have := tB.two.num; omega) hpq (r4.mono (fun k hk => .inl (hsub k hk))) r3 (fun k hk hf => by
              rcases r3 k hf with h5 | h5
              · exact tB.two.dis k hk h5
              · have := tB.two.pl.lt hk; omega) (fun k hk => .inl hk)).swap
            have hbb : σ1.bytes = σ3.bytes := lost_same hres r1 (fun i hi => HKE.out i (by rw [← hn8]; exact hi))
            exact ⟨rfl, ⟨tC.one.pl.c 0, tC.two.pl.c 0⟩, ⟨L3, σ3, tC⟩, two_images tC ok1 (Lost.ok hst8.ok r1) n1 (r1.n.trans hn8) (by omega) hbb WC (Below.refl _ _)⟩
          have NXA := hide nxa
          have oaI : (o : Int) = (af : Int) := by omega
          have HL1 := hide hres
          have HOK1 := hide ok1
          have HAR := hide hst8.arms
          have HO1 := hide (show σ1.ops < 1400000000000 from by have := HX.out.few; omega)
          obtain ⟨nb, hnb⟩ : ∃ nb, 64 * m2 = nb := ⟨_, rfl⟩
          rw [hnb] at NXA
          clear nxa htw8 hst8 hn8 ho8 ho1 hops8 HQ8 KQ KOPS S15 s15b ok1 n1 ht8 hres hoe hnb
          go_upto_region 18 with (go_at_call 11; refine (KOQ.out).mono ?_; rintro e w' ⟨rfl, hw⟩; obtain rfl := hw.symm)
          go_wp2_with (fail)
          refine wp_region_held_drew (S := fun Y => Y.cell? ⟨p, 0, none⟩ = some (.pointer (some ⟨b, 0, none⟩)) ∧ Y.cell? ⟨q, 0, none⟩ = some (.pointer (some ⟨d, 0, none⟩))) (by kernel_rfl) S18.out (fun hS => ?_)
          refine wpAnyH_take (i := 0) (v := (.bool false)) rfl (by kernel_rfl) (by kernel_rfl) (by kernel_rfl) (fun _ _ _ h => h) (Or.inl ⟨by kernel_rfl, fun w' hw => by (go_simp)⟩) hS ?_
          refine wpAnyH_take (i := 1) (v := (.bool false)) rfl (by kernel_rfl) (by kernel_rfl) (by kernel_rfl) (fun _ _ _ h => h) (Or.inl ⟨by kernel_rfl, fun w' hw => by (go_simp)⟩) hS ?_
          refine wpAnyH_take (i := 2) (v := (.pointer (some ⟨p, 0, none⟩))) rfl (by kernel_rfl) (by kernel_rfl) (by kernel_rfl) (fun _ _ _ h => h) (Or.inl ⟨by kernel_rfl, fun w' hw => by (go_simp)⟩) hS ?_
          refine wpAnyH_take (i := 3) (v := (.pointer (some ⟨p, 0, none⟩))) rfl (by kernel_rfl) (by kernel_rfl) (by kernel_rfl) (fun _ _ _ h => h) (Or.inl ⟨by kernel_rfl, fun w' hw => by (go_simp)⟩) hS ?_
          refine wpAnyH_take (i := 4) (v := (.pointer (some ⟨p, 0, none⟩))) rfl (by kernel_rfl) (by kernel_rfl) (by kernel_rfl) (fun _ _ _ h => h) (Or.inl ⟨by kernel_rfl, fun w' hw => by (go_simp)⟩) hS ?_
          refine wpAnyH_take (i := 5) (v := (.pointer (some ⟨b, 0, none⟩))) rfl (by kernel_rfl) (by kernel_rfl) (by kernel_rfl) (fun _ _ _ h => h) (Or.inl ⟨by kernel_rfl, fun w' hw => by (obtain ⟨z0, z1⟩ := hw; go_simp)⟩) hS ?_
          refine wpAnyH_goS (i := 6) (by kernel_rfl) rfl (by kernel_rfl) (fun K hK => ?_)
          go_wp2_with (go_at_call 12; refine (KOFF.out).mono ?_; rintro e WA ⟨rfl, hba⟩; obtain ⟨sA, tA⟩ := NXA.out WA hba; have TA := hide tA; clear hba tA)
          refine hK.out _ _ sA ?_
          clear hK K
          refine wpAnyH_take (i := 7) (v := (.bool false)) rfl (by kernel_rfl) (by kernel_rfl) (by kernel_rfl) (fun _ _ _ h => h) (Or.inl ⟨by kernel_rfl, fun w' hw => by (go_simp)⟩) sA ?_
          refine wpAnyH_take (i := 8) (v := (.bool false)) rfl (by kernel_rfl) (by kernel_rfl) (by kernel_rfl) (fun _ _ _ h => h) (Or.inl ⟨by kernel_rfl, fun w' hw => by (go_simp)⟩) sA ?_
          refine wpAnyH_take (i := 9) (v := (.bool false)) rfl (by kernel_rfl) (by kernel_rfl) (by kernel_rfl) (fun _ _ _ h => h) (Or.inl ⟨by kernel_rfl, fun w' hw => by (go_simp)⟩) sA ?_
          refine wpAnyH_take (i := 10) (v := (.pointer (some ⟨q, 0, none⟩))) rfl (by kernel_rfl) (by kernel_rfl) (by kernel_rfl) (fun _ _ _ h => h) (Or.inl ⟨by kernel_rfl, fun w' hw => by (go_simp)⟩) sA ?_
          refine wpAnyH_take (i := 11) (v := (.pointer (some ⟨q, 0, none⟩))) rfl (by kernel_rfl) (by kernel_rfl) (by kernel_rfl) (fun _ _ _ h => h) (Or.inl ⟨by kernel_rfl, fun w' hw => by (go_simp)⟩) sA ?_
          refine wpAnyH_take (i := 12) (v := (.pointer (some ⟨q, 0, none⟩))) rfl (by kernel_rfl) (by kernel_rfl) (by kernel_rfl) (fun _ _ _ h => h) (Or.inl ⟨by kernel_rfl, fun w' hw => by (go_simp)⟩) sA ?_
          refine wpAnyH_take (i := 13) (v := (.pointer (some ⟨d, 0, none⟩))) rfl (by kernel_rfl) (by kernel_rfl) (by kernel_rfl) (fun _ _ _ h => h) (Or.inl ⟨by kernel_rfl, fun w' hw => by (obtain ⟨z0, z1⟩ := hw; go_simp)⟩) sA ?_
          refine wpAnyH_take (i := 14) (v := (.slice ka nk kc)) rfl (by kernel_rfl) (by kernel_rfl) (by kernel_rfl) (fun _ _ _ h => h) (Or.inl ⟨by kernel_rfl, fun w' hw => by (go_simp)⟩) sA ?_
          refine wpAnyH_goS (i := 15) (by kernel_rfl) rfl (by kernel_rfl) (fun K hK => ?_)
          go_wp2_with (go_at_call 9; refine (TA.out).mono ?_; rintro e WB ⟨ca2, cc2, rfl, sB, tB⟩; have TB := hide tB; clear tB)
          refine hK.out _ _ sB ?_
          clear hK K
          refine wpAnyH_goS (i := 16) (by kernel_rfl) rfl (by kernel_rfl) (fun K hK => ?_)
          go_wp2_with (go_at_call 13; refine (TB.out).mono ?_; rintro e WC ⟨rfl, sC, tw, tC⟩; have TWC := hide tw; have TC := hide tC; clear tw tC)
          refine hK.out _ _ sC ?_
          clear hK K
          refine wpAnyH_take (i := 17) (v := (.bool false)) rfl (by kernel_rfl) (by kernel_rfl) (by kernel_rfl) (fun _ _ _ h => h) (Or.inl ⟨by kernel_rfl, fun w' hw => by (go_simp)⟩) sC ?_
          refine wpAnyH_take (i := 18) (v := (.bool false)) rfl (by kernel_rfl) (by kernel_rfl) (by kernel_rfl) (fun _ _ _ h => h) (Or.inl ⟨by kernel_rfl, fun w' hw => by (go_simp)⟩) sC ?_
          refine wpAnyH_take (i := 19) (v := (.bool false)) rfl (by kernel_rfl) (by kernel_rfl) (by kernel_rfl) (fun _ _ _ h => h) (Or.inl ⟨by kernel_rfl, fun w' hw => by (go_simp)⟩) sC ?_
          refine wpAnyH_take (i := 20) (v := (.pointer (some ⟨p, 0, none⟩))) rfl (by kernel_rfl) (by kernel_rfl) (by kernel_rfl) (fun _ _ _ h => h) (Or.inl ⟨by kernel_rfl, fun w' hw => by (go_simp)⟩) sC ?_
          refine wpAnyH_take (i := 21) (v := (.pointer (some ⟨p, 0, none⟩))) rfl (by kernel_rfl) (by kernel_rfl) (by kernel_rfl) (fun _ _ _ h => h) (Or.inl ⟨by kernel_rfl, fun w' hw => by (go_simp)⟩) sC ?_
          refine wpAnyH_take (i := 22) (v := (.pointer (some ⟨p, 0, none⟩))) rfl (by kernel_rfl) (by kernel_rfl) (by kernel_rfl) (fun _ _ _ h => h) (Or.inl ⟨by kernel_rfl, fun w' hw => by (go_simp)⟩) sC ?_
          refine wpAnyH_take (i := 23) (v := (.pointer (some ⟨b, 0, none⟩))) rfl (by kernel_rfl) (by kernel_rfl) (by kernel_rfl) (fun _ _ _ h => h) (Or.inl ⟨by kernel_rfl, fun w' hw => by (obtain ⟨z0, z1⟩ := hw; go_simp)⟩) sC ?_
          refine wpAnyH_take (i := 25) (v := (.pointer (some ⟨q, 0, none⟩))) rfl (by kernel_rfl) (by kernel_rfl) (by kernel_rfl) (fun _ _ _ h => h) (Or.inl ⟨by kernel_rfl, fun w' hw => by (go_simp)⟩) sC ?_
          refine wpAnyH_take (i := 26) (v := (.pointer (some ⟨q, 0, none⟩))) rfl (by kernel_rfl) (by kernel_rfl) (by kernel_rfl) (fun _ _ _ h => h) (Or.inl ⟨by kernel_rfl, fun w' hw => by (go_simp)⟩) sC ?_
          refine wpAnyH_take (i := 27) (v := (.pointer (some ⟨q, 0, none⟩))) rfl (by kernel_rfl) (by kernel_rfl) (by kernel_rfl) (fun _ _ _ h => h) (Or.inl ⟨by kernel_rfl, fun w' hw => by (go_simp)⟩) sC ?_
          refine wpAnyH_take (i := 28) (v := (.pointer (some ⟨d, 0, none⟩))) rfl (by kernel_rfl) (by kernel_rfl) (by kernel_rfl) (fun _ _ _ h => h) (Or.inl ⟨by kernel_rfl, fun w' hw => by (obtain ⟨z0, z1⟩ := hw; go_simp)⟩) sC ?_
          refine wpAnyH_goS (i := 24) (by kernel_rfl) rfl (by kernel_rfl) (fun K hK => ?_)
          go_wp2_with (go_at_call 15; refine (TC.out).mono ?_; rintro e WD ⟨rfl, sD, tD⟩; have TD := hide tD; clear tD)
          refine hK.out _ _ sD ?_
          clear hK K
          refine wpAnyH_goS (i := 29) (by kernel_rfl) rfl (by kernel_rfl) (fun K hK => ?_)
          go_wp2_with (go_at_call 15; refine (TD.out).mono ?_; rintro e WE ⟨rfl, sE, tE⟩; have TE := hide tE; clear tE)
          refine hK.out _ _ sE ?_
          clear hK K
          refine wpAnyH_goS (i := 30) (by kernel_rfl) rfl (by kernel_rfl) (fun K hK => ?_)
          go_wp2_with (go_at_call 14; refine (TE.out).mono ?_; rintro e WF ⟨rfl, sF, tF⟩; have TF := hide tF; clear tF)
          refine hK.out _ _ sF ?_
          clear hK K
          refine wpAnyH_take (i := 31) (v := (.bool false)) rfl (by kernel_rfl) (by kernel_rfl) (by kernel_rfl) (fun _ _ _ h => h) (Or.inl ⟨by kernel_rfl, fun w' hw => by (go_simp)⟩) sF ?_
          refine wpAnyH_take (i := 32) (v := (.bool false)) rfl (by kernel_rfl) (by kernel_rfl) (by kernel_rfl) (fun _ _ _ h => h) (Or.inl ⟨by kernel_rfl, fun w' hw => by (go_simp)⟩) sF ?_
          refine wpAnyH_done (by kernel_rfl) ?_ _
          simp only [Act.put, List.getElem_toArray, List.getElem_cons_zero, List.getElem_cons_succ, List.setIfInBounds_toArray, List.set_cons_zero, List.set_cons_succ]
          obtain ⟨L3, σ3, tC⟩ := TWC.out
          have tF := tC.below TF.out
          have kw1 := pwake_off tF.one.dev HL1.out.off
          have hs7 : Gr (fun k => k = b) WF (WF.setCell ⟨b, 7, none⟩ (.bool false)) := Gr.set WF b 7 _ (X := fun k => k = b) rfl
          have KW1 := hide kw1
          have okw : ({ σ1 with off := false } : St).Ok := by have h := HOK1.out; exact ⟨h.pos, h.max, h.len, h.byte, h.out, h.clen, h.cbyte, h.few, h.flp, h.opsm⟩
          have fin : ∀ hd : DevL (WF.setCell ⟨b, 7, none⟩ (.bool false)) b L1 { σ1 with off := false }, (WF.setCell ⟨b, 7, none⟩ (.bool false)).cell? ⟨p, 0, none⟩ = some (.pointer (some ⟨b, 0, none⟩)) ∧ (Calls Try.prog 16 #[.pointer (some ⟨b, 0, none⟩)] (WF.setCell ⟨b, 7, none⟩ (.bool false)) fun e w' => e = .returned (.int .i64 3) ∧ w' = (WF.setCell ⟨b, 7, none⟩ (.bool false))) ∧ Calls Try.prog 17 #[.pointer (some ⟨b, 0, none⟩)] (WF.setCell ⟨b, 7, none⟩ (.bool false)) fun e w' => e = .returned (.int .i64 0) ∧ Below w.heap.size w w' := fun hd => by
            have hp9 : PlL (WF.setCell ⟨b, 7, none⟩ (.bool false)) p b K1 (stB s (8 * m2) Bp) := tF.one.pl.gr hs7 (fun k hk e => tF.one.dis k hk (.inl e))
            have t9 := tF.step hd tF.one.num hp9 (hs7.mono (fun k hk => .inl (.inl hk))) (fun k hk => .inl hk) tF.one.dis (fun k hk => .inl hk)
            refine ⟨hp9.c 0, pwake_on hd rfl, (pfence_any hd okw rfl (by show σ1.arms = []; rw [HL1.out.arms]; exact HAR.out) HO1.out).mono ?_⟩
            rintro e w' ⟨rfl, L4, q1, q2, q3, q4⟩
            refine ⟨rfl, HWV.out.trans ?_⟩
            have hb9 := t9.one.bel
            have h5 : Below V.heap.size V w' := ⟨q3.1.trans hb9.os, q3.2.1.trans hb9.tape, q3.2.2.1.trans hb9.output, Nat.le_trans hb9.size q3.size, fun k hk => (q3.block (Nat.lt_of_lt_of_le hk hb9.size) (fun hf => by have := t9.one.fd k hf; omega)).trans (hb9.block k hk)⟩
            exact h5.mono HWV.out.size
          have FIN := hide fin
          obtain ⟨sF1, sF2⟩ := sF
          have M1 := hide trivial
          clear kw1 hs7 okw fin tF tC TF TWC sF2
          go_wp2_with (first
            | (go_at_call 16; have M1' := M1; clear M1' M1; refine (KW1.out).mono ?_; rintro e w' ⟨rfl, rfl, hd⟩; obtain ⟨z1, z2, z3⟩ := FIN.out hd; have Z2 := hide z2; have Z3 := hide z3; clear hd z2 z3)
            | (go_at_call 16; refine (Z2.out).mono ?_; rintro e w' ⟨rfl, hw⟩; obtain rfl := hw.symm)
            | (go_at_call 17; refine (Z3.out).mono ?_; rintro e w' ⟨rfl, hw9⟩; have HW9 := hide hw9; clear hw9))
          go_ret
          exact ⟨rfl, HW9.out⟩
      · have iI : ¬ (i : Int) < (ns : Int) := by omega
        obtain ⟨nb, hnb⟩ : ∃ nb, 64 * m2 = nb := ⟨_, rfl⟩
        have kim := two_images (htw.below (Below.refl _ wr).drew) (twin_ok hst.ok) hst.ok (show (twin σ af kp).n = m2 from hn) hn (by omega) (show (twin σ af kp).bytes = σ.bytes from rfl) wr.drew (Below.refl _ _)
        rw [hnb] at kim
        have KIM := hide kim
        have S23 := hide (show wr.drew.cell? ⟨p, 0, none⟩ = some (.pointer (some ⟨b, 0, none⟩)) ∧ wr.drew.cell? ⟨q, 0, none⟩ = some (.pointer (some ⟨d, 0, none⟩)) from ⟨htw.one.pl.c 0, htw.two.pl.c 0⟩)
        have HBW := hide htw.one.bel
        clear kim htw hst hlen hcp hcq hnb
        go_wp2_with (fail)
        refine wp_region_held_drew (S := fun Y => Y.cell? ⟨p, 0, none⟩ = some (.pointer (some ⟨b, 0, none⟩)) ∧ Y.cell? ⟨q, 0, none⟩ = some (.pointer (some ⟨d, 0, none⟩))) (by kernel_rfl) S23.out (fun hS => ?_)
        refine wpAnyH_take (i := 0) (v := (.pointer (some ⟨p, 0, none⟩))) rfl (by kernel_rfl) (by kernel_rfl) (by kernel_rfl) (fun _ _ _ h => h) (Or.inl ⟨by kernel_rfl, fun w' hw => by (go_simp)⟩) hS ?_
        refine wpAnyH_take (i := 1) (v := (.pointer (some ⟨p, 0, none⟩))) rfl (by kernel_rfl) (by kernel_rfl) (by kernel_rfl) (fun _ _ _ h => h) (Or.inl ⟨by kernel_rfl, fun w' hw => by (go_simp)⟩) hS ?_
        refine wpAnyH_take (i := 2) (v := (.pointer (some ⟨p, 0, none⟩))) rfl (by kernel_rfl) (by kernel_rfl) (by kernel_rfl) (fun _ _ _ h => h) (Or.inl ⟨by kernel_rfl, fun w' hw => by (go_simp)⟩) hS ?_
        refine wpAnyH_take (i := 3) (v := (.pointer (some ⟨b, 0, none⟩))) rfl (by kernel_rfl) (by kernel_rfl) (by kernel_rfl) (fun _ _ _ h => h) (Or.inl ⟨by kernel_rfl, fun w' hw => by (obtain ⟨z0, z1⟩ := hw; go_simp)⟩) hS ?_
        refine wpAnyH_take (i := 5) (v := (.pointer (some ⟨q, 0, none⟩))) rfl (by kernel_rfl) (by kernel_rfl) (by kernel_rfl) (fun _ _ _ h => h) (Or.inl ⟨by kernel_rfl, fun w' hw => by (go_simp)⟩) hS ?_
        refine wpAnyH_take (i := 6) (v := (.pointer (some ⟨q, 0, none⟩))) rfl (by kernel_rfl) (by kernel_rfl) (by kernel_rfl) (fun _ _ _ h => h) (Or.inl ⟨by kernel_rfl, fun w' hw => by (go_simp)⟩) hS ?_
        refine wpAnyH_take (i := 7) (v := (.pointer (some ⟨q, 0, none⟩))) rfl (by kernel_rfl) (by kernel_rfl) (by kernel_rfl) (fun _ _ _ h => h) (Or.inl ⟨by kernel_rfl, fun w' hw => by (go_simp)⟩) hS ?_
        refine wpAnyH_take (i := 8) (v := (.pointer (some ⟨d, 0, none⟩))) rfl (by kernel_rfl) (by kernel_rfl) (by kernel_rfl) (fun _ _ _ h => h) (Or.inl ⟨by kernel_rfl, fun w' hw => by (obtain ⟨z0, z1⟩ := hw; go_simp)⟩) hS ?_
        refine wpAnyH_goS (i := 4) (by kernel_rfl) rfl (by kernel_rfl) (fun K hK => ?_)
        go_wp2_with (go_at_call 15; refine (KIM.out).mono ?_; rintro e WD ⟨rfl, sD, tD⟩; have TD := hide tD; clear tD)
        refine hK.out _ _ sD ?_
        clear hK K
        refine wpAnyH_goS (i := 9) (by kernel_rfl) rfl (by kernel_rfl) (fun K hK => ?_)
        go_wp2_with (go_at_call 15; refine (TD.out).mono ?_; rintro e WE ⟨rfl, sE, tE⟩; have TE := hide tE; clear tE)
        refine hK.out _ _ sE ?_
        clear hK K
        refine wpAnyH_goS (i := 10) (by kernel_rfl) rfl (by kernel_rfl) (fun K hK => ?_)
        go_wp2_with (go_at_call 14; refine (TE.out).mono ?_; rintro e WF ⟨rfl, sF, tF⟩; have TF := hide tF; clear tF)
        refine hK.out _ _ sF ?_
        clear hK K
        refine wpAnyH_take (i := 11) (v := (.bool true)) rfl (by kernel_rfl) (by kernel_rfl) (by kernel_rfl) (fun _ _ _ h => h) (Or.inl ⟨by kernel_rfl, fun w' hw => by (go_simp)⟩) sF ?_
        refine wpAnyH_done (by kernel_rfl) ?_ _
        simp only [Act.put, List.getElem_toArray, List.getElem_cons_zero, List.getElem_cons_succ, List.setIfInBounds_toArray, List.set_cons_zero, List.set_cons_succ]
        have HF9 := hide (show Below w.heap.size w WF from HWV.out.trans ((HBW.out.drew.trans (TF.out.mono HBW.out.drew.size)).mono HWV.out.size))
        clear TF TE TD KIM S23
        go_wp2_with (fail)
        go_ret
        exact ⟨rfl, HF9.out⟩
  · have hng2 : nonneg zs = false := by simpa using hng
    rw [hng2] at kgo
    have KGO := hide kgo
    have HZ2 := hide (show IntsP V none [] from ⟨by simp, .inl rfl⟩)
    have HNG := hide (show nonneg [] = true from rfl)
    replace HNK := hide (show ([] : List Int).length = 0 from rfl)
    clear kgo hzV hng hng2
    go_upto_region 6 with (go_at_call 5; refine (KGO.out).mono ?_; rintro e w' ⟨rfl, hw⟩; obtain rfl := hw.symm)
    go_upto_region 7 with (go_at_call 6; refine (KWI.out).mono ?_; rintro e w' ⟨rfl, hw⟩; obtain rfl := hw.symm)
    obtain ⟨af, haf⟩ : ∃ af : Nat, 1 + r = af := ⟨_, rfl⟩
    have hafI : (1 : Int) + (r : Int) = (af : Int) := by omega
    rw [hafI]
    have afI : (af : Int) ≤ 40 := by omega
    have af1 : 1 ≤ af := by omega
    have KB1 := hide (begun_any V li none 0 0 [] hli (.inl rfl) (by simp) rfl (by omega))
    clear haf hafI f2 KWI KGO rI hr40
    go_upto_region 8 with (go_at_call 7; refine (KB1.out).mono ?_; rintro e W2 ⟨p, b, m, K, L, B, σ, rfl, hpd, hst, hn, hmm, hm4, _, hcap, hz9⟩; obtain rfl := hz9 rfl; have HPD := hide hpd; have HST := hide hst; have HMM := hide hmm; have HCAP := hide hcap; clear hpd hst hn hcap hz9 hmm)
    have hm1 : 1 ≤ m := by have := HMM.out; omega
    obtain ⟨f0, _, _, _⟩ := FX.out W2 (HV.out.trans (HPD.out.bel.mono HV.out.size))
    have KB2 := hide (begun_any W2 li none 0 0 [] hli (.inl rfl) (by simp) rfl (by omega))
    clear KB1
    go_upto_region 9 with (go_at_call 7; refine (KB2.out).mono ?_; rintro e W3 ⟨q, d, m2, K', L', B', σ2, rfl, hpd, hst, hn, hmm, _, _, hcap, hz9⟩; obtain rfl : m2 = m := hmm.trans HMM.out.symm; obtain rfl := hz9 rfl; have HPQ := hide hpd; have HSQ := hide hst; have HCQ := hide hcap; clear hpd hst hn hcap hz9 hmm)
    have htwo : Two V W3 p b K L B (newD m2) q d K' L' B' (newD m2) := by
      have h1 := HPD.out
      have h2 := HPQ.out
      refine ⟨h1.below h2.bel, ⟨h2.pl, h2.dev, h2.num, h2.dis, fun k hk => Nat.le_trans h1.bel.size (h2.fp k hk), fun k hk => Nat.le_trans h1.bel.size (h2.fd k hk), h1.bel.trans (h2.bel.mono h1.bel.size)⟩, fun k hk hf => ?_⟩
      have q1 : k < W2.heap.size := hk.elim (fun h5 => h1.pl.lt h5) (fun h5 => h1.dev.foot_is h5)
      have q2 : W2.heap.size ≤ k := hf.elim (fun h5 => h2.fp k h5) (fun h5 => h2.fd k h5)
      omega
    have kci : Calls Try.prog 9 #[.slice none 0 0] W3.drew fun e w' => ∃ ca cc, e = .returned (.slice ca 0 cc) ∧ OwnI w' 0 (.slice ca 0 cc) ([] : List Int) ∧ (0 = 0 → ca = none ∧ cc = 0) ∧ Below W3.heap.size W3 w' := by
      by_cases h0 : ([] : List Int) = []
      · have hn0 : 0 = 0 := by first | rfl | (have h9 := HNK.out; rw [h0] at h9; simpa using h9.symm)
        have h5 := copyInts_nil W3.drew none 0
        rw [← hn0] at h5
        refine h5.mono ?_
        rintro e w' ⟨rfl, rfl⟩
        exact ⟨none, 0, by rw [hn0], by rw [h0, hn0]; exact ⟨rfl, .inl ⟨rfl, rfl⟩⟩, fun _ => ⟨rfl, rfl⟩, (Below.refl _ W3).drew⟩
      · refine (copyInts_any 0 0 (HZ2.out.below (htwo.one.bel.drew)) HNK.out (by omega)).mono ?_
        rintro e w' ⟨ca, cc, rfl, q1, q2⟩
        exact ⟨ca, cc, rfl, q1.zero, fun h9 => absurd (List.eq_nil_of_length_eq_zero (HNK.out.trans h9)) h0, (Below.refl _ W3).drew.trans q2⟩
    have kar : ∀ (W4 : World) (ca : Option Addr) (cc : Nat), OwnI W4 0 (.slice ca 0 cc) ([] : List Int) → (0 = 0 → ca = none ∧ cc = 0) → Below W3.heap.size W3 W4 → W4.cell? ⟨p, 0, none⟩ = some (.pointer (some ⟨b, 0, none⟩)) ∧ (W4.alloc (.cells #[.int .i64 (af : Int), .slice ca 0 cc] 42)).cell? ⟨p, 0, none⟩ = some (.pointer (some ⟨b, 0, none⟩)) ∧ Calls Try.prog 8 #[.pointer (some ⟨b, 0, none⟩), .slice (some ⟨W4.heap.size, 0, none⟩) 1 1] (W4.alloc (.cells #[.int .i64 (af : Int), .slice ca 0 cc] 42)) fun e W6 => e = .returned (.int .i64 0) ∧ W6.cell? ⟨p, 0, none⟩ = some (.pointer (some ⟨b, 0, none⟩)) ∧ ∃ L6 kp, Two V W6 p b K L6 B (twin (newD m2) af kp) q d K' L' B' (newD m2) ∧ (∀ x ∈ kp, x < 9223372036854775808) ∧ kp.length ≤ 4 ∧ ∀ i, i < m2 → kp[i]? = (([] : List Int).map Int.toNat)[i]? := fun W4 ca cc h1 h2 h3 => by
      have hBa : Below W4.heap.size W4 (W4.alloc (.cells #[.int .i64 (af : Int), .slice ca 0 cc] 42)) := (Below.refl _ _).alloc (Nat.le_refl _) _
      have t4 := htwo.below h3
      have t5 := t4.below hBa
      refine ⟨t4.one.pl.c 0, t5.one.pl.c 0, (parm_keep (af := af) t5.one.dev hm1 (by omega) af1 (h1.below hBa) HNK.out (by omega) HZ2.out.1 HNG.out h2 (heap_alloc_new W4 _) (fun e => by have h9 := t4.one.dev.foot_is (.inr (.inr (.inr (.inr (.inr (.inl e)))))); omega)).mono ?_⟩
      rintro e W6 ⟨rfl, L6, kp, q1, q2, q3, q4, q5, q6, q7⟩
      have hp6 : PlL W6 p b K B := t5.one.pl.gr q3 (fun k hk => t5.one.dis k hk)
      have t6 : Two V W6 p b K L6 B (twin (newD m2) af kp) q d K' L' B' (newD m2) := t5.step (σ1 := twin (newD m2) af kp) q1 (by have := t5.one.num; show L6.N ≤ 0; have h9 : L.N ≤ 0 := this; omega) hp6 (q3.mono (fun k hk => .inl hk)) q2 (fun k hk hf => by
        rcases q2 k hf with h9 | h9
        · exact t5.one.dis k hk h9
        · have := t5.one.pl.lt hk; omega) (fun k hk => .inl hk)
      exact ⟨rfl, hp6.c 0, L6, kp, t6, q5, q6, q7⟩
    have S9 := hide (show W3.drew.cell? ⟨p, 0, none⟩ = some (.pointer (some ⟨b, 0, none⟩)) from htwo.one.pl.c 0)
    have KCI := hide kci
    have KAR := hide kar
    clear kci kar htwo KB2 f0
    refine wp_region_held_drew (S := fun Y => Y.cell? ⟨p, 0, none⟩ = some (.pointer (some ⟨b, 0, none⟩))) (by kernel_rfl) S9.out (fun hS => ?_)
    refine wpAnyH_take (i := 0) (v := (.bool true)) rfl (by kernel_rfl) (by kernel_rfl) (by kernel_rfl) (fun _ _ _ h => h) (Or.inl ⟨by kernel_rfl, fun w' hw => by (go_simp)⟩) hS ?_
    refine wpAnyH_take (i := 1) (v := (.bool false)) rfl (by kernel_rfl) (by kernel_rfl) (by kernel_rfl) (fun _ _ _ h => h) (Or.inl ⟨by kernel_rfl, fun w' hw => by (go_simp)⟩) hS ?_
    refine wpAnyH_take (i := 2) (v := (.bool false)) rfl (by kernel_rfl) (by kernel_rfl) (by kernel_rfl) (fun _ _ _ h => h) (Or.inl ⟨by kernel_rfl, fun w' hw => by (go_simp)⟩) hS ?_
    refine wpAnyH_take (i := 3) (v := (.bool true)) rfl (by kernel_rfl) (by kernel_rfl) (by kernel_rfl) (fun _ _ _ h => h) (Or.inl ⟨by kernel_rfl, fun w' hw => by (go_simp)⟩) hS ?_
    refine wpAnyH_take (i := 4) (v := (.bool false)) rfl (by kernel_rfl) (by kernel_rfl) (by kernel_rfl) (fun _ _ _ h => h) (Or.inl ⟨by kernel_rfl, fun w' hw => by (go_simp)⟩) hS ?_
    refine wpAnyH_take (i := 5) (v := (.bool false)) rfl (by kernel_rfl) (by kernel_rfl) (by kernel_rfl) (fun _ _ _ h => h) (Or.inl ⟨by kernel_rfl, fun w' hw => by (go_simp)⟩) hS ?_
    refine wpAnyH_take (i := 6) (v := (.bool false)) rfl (by kernel_rfl) (by kernel_rfl) (by kernel_rfl) (fun _ _ _ h => h) (Or.inl ⟨by kernel_rfl, fun w' hw => by (go_simp)⟩) hS ?_
    refine wpAnyH_take (i := 7) (v := (.pointer (some ⟨p, 0, none⟩))) rfl (by kernel_rfl) (by kernel_rfl) (by kernel_rfl) (fun _ _ _ h => h) (Or.inl ⟨by kernel_rfl, fun w' hw => by (go_simp)⟩) hS ?_
    refine wpAnyH_take (i := 8) (v := (.pointer (some ⟨p, 0, none⟩))) rfl (by kernel_rfl) (by kernel_rfl) (by kernel_rfl) (fun _ _ _ h => h) (Or.inl ⟨by kernel_rfl, fun w' hw => by (go_simp)⟩) hS ?_
    refine wpAnyH_take (i := 9) (v := (.pointer (some ⟨p, 0, none⟩))) rfl (by kernel_rfl) (by kernel_rfl) (by kernel_rfl) (fun _ _ _ h => h) (Or.inl ⟨by kernel_rfl, fun w' hw => by (go_simp)⟩) hS ?_
    refine wpAnyH_take (i := 10) (v := (.pointer (some ⟨b, 0, none⟩))) rfl (by kernel_rfl) (by kernel_rfl) (by kernel_rfl) (fun _ _ _ h => h) (Or.inl ⟨by kernel_rfl, fun w' hw => by (have z0 := hw; go_simp)⟩) hS ?_
    refine wpAnyH_take (i := 11) (v := (.int .i64 (af : Int))) rfl (by kernel_rfl) (by kernel_rfl) (by kernel_rfl) (fun _ _ _ h => h) (Or.inl ⟨by kernel_rfl, fun w' hw => by (go_simp)⟩) hS ?_
    refine wpAnyH_take (i := 12) (v := (.slice none 0 0)) rfl (by kernel_rfl) (by kernel_rfl) (by kernel_rfl) (fun _ _ _ h => h) (Or.inl ⟨by kernel_rfl, fun w' hw => by (go_simp)⟩) hS ?_
    refine wpAnyH_goS (i := 13) (by kernel_rfl) rfl (by kernel_rfl) (fun K hK => ?_)
    go_wp2_with (go_at_call 9; refine (KCI.out).mono ?_; rintro e W4 ⟨ca, cc, rfl, ho4, hn4, hb4⟩; have HO4 := hide ho4; have HN4 := hide hn4; have HB4 := hide hb4; clear ho4 hn4 hb4)
    obtain ⟨s9a, s9b, karm⟩ := KAR.out W4 ca cc HO4.out HN4.out HB4.out
    have KA4 := hide karm
    clear karm
    refine hK.out _ _ s9a ?_
    clear hK K
    refine wpAnyH_take (i := 14) (v := (.agg #[.int .i64 (af : Int), .slice ca 0 cc])) rfl (by kernel_rfl) (by kernel_rfl) (by kernel_rfl) (fun _ _ _ h => h) (Or.inl ⟨by kernel_rfl, fun w' hw => by (go_simp)⟩) s9a ?_
    refine wpAnyH_goS (i := 15) (by kernel_rfl) rfl (by kernel_rfl) (fun K hK => ?_)
    refine wp_slice_arm (.tmp 51) (by kernel_rfl) [.int .i64 (af : Int), .slice ca 0 cc] (by kernel_rfl) (by simp) ?_
    refine hK.out _ _ s9b ?_
    clear hK K
    refine wpAnyH_goS (i := 16) (by kernel_rfl) rfl (by kernel_rfl) (fun K hK => ?_)
    go_wp2_with (go_at_call 8; refine (KA4.out).mono ?_; rintro e W6 ⟨rfl, s9c, hc6⟩; have HC6 := hide hc6; clear hc6)
    refine hK.out _ _ s9c ?_
    clear hK K
    refine wpAnyH_take (i := 17) (v := (.bool false)) rfl (by kernel_rfl) (by kernel_rfl) (by kernel_rfl) (fun _ _ _ h => h) (Or.inl ⟨by kernel_rfl, fun w' hw => by (go_simp)⟩) s9c ?_
    refine wpAnyH_take (i := 18) (v := (.bool false)) rfl (by kernel_rfl) (by kernel_rfl) (by kernel_rfl) (fun _ _ _ h => h) (Or.inl ⟨by kernel_rfl, fun w' hw => by (go_simp)⟩) s9c ?_
    refine wpAnyH_done (by kernel_rfl) ?_ _
    simp only [Act.put, List.getElem_toArray, List.getElem_cons_zero, List.getElem_cons_succ, List.setIfInBounds_toArray, List.set_cons_zero, List.set_cons_succ]
    obtain ⟨L6, kp, htw, hkb, hkl, hke⟩ := HC6.out
    have HTW := hide htw
    have HKB := hide hkb
    have HKL := hide hkl
    have HKE := hide hke
    have HLP := hide (HST.out.rel.lens (m := m2) rfl)
    clear htw hkb hkl hke HC6 KA4 KCI KAR S9 s9a s9b s9c HO4 HN4 HB4
    go_wp2_with (fail)
    try go_frame
    go_loopw [10] (fun iv wr => ∃ (i : Nat) (Kp : Kl) (Lp : Lay) (Bp : Bk) (Kq : Kl) (Lq : Lay) (Bq : Bk) (σ : St), iv = .int .i64 (i : Int) ∧ i ≤ ns ∧ Two V wr p b Kp Lp Bp (twin σ af kp) q d Kq Lq Bq σ ∧ StepOk Bq σ ∧ Lens Bp m2 ∧ σ.n = m2 ∧ σ.ops ≤ i ∧ σ.ops < af ∧ (∀ l ∈ Bp.held, l.length ≤ i + 1) ∧ (∀ l ∈ Bq.held, l.length ≤ i + 1)) (fun iv _ => (ns - (intOf iv).toNat))
    case atStart => exact ⟨0, K, L6, B, K', L', B', newD m2, rfl, Nat.zero_le _, HTW.out, HSQ.out, HLP.out, rfl, Nat.le_refl _, af1, HCAP.out, HCQ.out⟩
    case round =>
      obtain ⟨i, Kp, Lp, Bp, Kq, Lq, Bq, σ, rfl, hi, htw, hst, hlen, hn, hops, hlt, hcp, hcq⟩ := hrel
      by_cases hin : i < ns
      · have iI : (i : Int) < (ns : Int) := by omega
        have nsI : (ns : Int) ≤ 1353300000000 := by have := HX.out.few; omega
        obtain ⟨s, hs⟩ : ∃ s, xs[i]? = some s := ⟨_, List.getElem?_eq_getElem (by rw [HX.out.len]; exact hin)⟩
        have HSX := hide hs
        have hsok := HX.out.ok s (List.mem_of_getElem? hs)
        obtain ⟨g, off, rfl, _, hcl⟩ := (HX.out.row.below (HWV.out.trans (htw.one.bel.mono HWV.out.size))).at hs
        have d0 := hcl 0 _ rfl
        have d1 := hcl 1 _ rfl
        have d2 := hcl 2 _ rfl
        have d3 := hcl 3 _ rfl
        have d4 := hcl 4 _ rfl
        have d5 := hcl 5 _ rfl
        have d6 := hcl 6 _ rfl
        simp only [Nat.add_zero] at d0
        have ix := fun Y => index_step g off i ns c hin Y
        obtain ⟨o, ho⟩ : ∃ o, opsOf s σ = o := ⟨_, rfl⟩
        have HO := hide ho
        have HLB := hide hlen
        have HCP := hide hcp
        have HCQ2 := hide hcq
        have hole : o ≤ af := by
          rw [← ho]
          unfold opsOf
          split <;> omega
        clear hcl hs ho
        by_cases hoa : o < af
        · have kp7 : Calls Try.prog 10 #[.pointer (some ⟨p, 0, none⟩), .agg #[.int .i64 s.k, .int .i64 s.a, .int .i64 s.n, .int .u64 (s.v : Int), .slice s.da s.dl s.dc, .slice s.ka s.kl s.kc, .slice s.aa s.al s.ac]] wr fun e W7 => e = .returned (.bool true) ∧ ∃ K1 L1 σ1, StepD s (8 * m2) (twin σ af kp) 0 σ1 ∧ Two V W7 p b K1 L1 (stB s (8 * m2) Bp) σ1 q d Kq Lq Bq σ := by
            refine (two_play (k := i) s hsok htw (twin_ok hst.ok) hst.off ⟨.inr ⟨af, kp, rfl, HKB.out, by have := HKL.out; omega⟩, by show σ.ops < _; omega⟩ hops hops (by have := HX.out.few; omega) hn hm1 (by omega) hlen hcp).mono ?_
            rintro e W7 ⟨c5, K1, L1, σ1, rfl, q1, q2, _⟩
            obtain rfl : c5 = 0 := (twin_code hst.arms hst.cnt q1 hlt).1 (by rw [HO.out]; exact hoa)
            exact ⟨rfl, K1, L1, σ1, q1, q2⟩
          have KP7 := hide kp7
          clear kp7
          go_upto_region 15 with (go_at_call 10; refine (KP7.out).mono ?_; rintro e W7 ⟨rfl, K1, L1, σ1, hsd, htw7⟩; have HSD := hide hsd; have HTW7 := hide htw7; clear hsd htw7)
          have rowW : ∀ Y, Below V.heap.size V Y → ∀ j v, s.vals.toList[j]? = some v → Y.cell? ⟨g, off + i * 7 + j, none⟩ = some v := fun Y hY => by
            obtain ⟨g2, off2, e2, _, hcl2⟩ := (HX.out.row.below (HWV.out.trans (hY.mono HWV.out.size))).at HSX.out
            cases e2
            exact hcl2
          have sY : ∀ Y K1 L1 B1 τ1 K2 L2 B2 τ2, Two V Y p b K1 L1 B1 τ1 q d K2 L2 B2 τ2 → Y.cell? ⟨g, off + i * 7, none⟩ = some (.int .i64 s.k) ∧ Y.cell? ⟨g, off + i * 7 + 1, none⟩ = some (.int .i64 s.a) ∧ Y.cell? ⟨g, off + i * 7 + 2, none⟩ = some (.int .i64 s.n) ∧ Y.cell? ⟨g, off + i * 7 + 3, none⟩ = some (.int .u64 (s.v : Int)) ∧ Y.cell? ⟨g, off + i * 7 + 4, none⟩ = some (.slice s.da s.dl s.dc) ∧ Y.cell? ⟨g, off + i * 7 + 5, none⟩ = some (.slice s.ka s.kl s.kc) ∧ Y.cell? ⟨g, off + i * 7 + 6, none⟩ = some (.slice s.aa s.al s.ac) ∧ Y.cell? ⟨p, 0, none⟩ = some (.pointer (some ⟨b, 0, none⟩)) ∧ Y.cell? ⟨q, 0, none⟩ = some (.pointer (some ⟨d, 0, none⟩)) := fun Y K1 L1 B1 τ1 K2 L2 B2 τ2 ht => by
            have hc := rowW Y ht.one.bel
            exact ⟨by simpa using hc 0 _ rfl, hc 1 _ rfl, hc 2 _ rfl, hc 3 _ rfl, hc 4 _ rfl, hc 5 _ rfl, hc 6 _ rfl, ht.one.pl.c 0, ht.two.pl.c 0⟩
          have kq8 : Calls Try.prog 10 #[.pointer (some ⟨q, 0, none⟩), .agg #[.int .i64 s.k, .int .i64 s.a, .int .i64 s.n, .int .u64 (s.v : Int), .slice s.da s.dl s.dc, .slice s.ka s.kl s.kc, .slice s.aa s.al s.ac]] W7.drew fun e W8 => e = .returned (.bool true) ∧ (W8.cell? ⟨g, off + i * 7, none⟩ = some (.int .i64 s.k) ∧ W8.cell? ⟨g, off + i * 7 + 1, none⟩ = some (.int .i64 s.a) ∧ W8.cell? ⟨g, off + i * 7 + 2, none⟩ = some (.int .i64 s.n) ∧ W8.cell? ⟨g, off + i * 7 + 3, none⟩ = some (.int .u64 (s.v : Int)) ∧ W8.cell? ⟨g, off + i * 7 + 4, none⟩ = some (.slice s.da s.dl s.dc) ∧ W8.cell? ⟨g, off + i * 7 + 5, none⟩ = some (.slice s.ka s.kl s.kc) ∧ W8.cell? ⟨g, off + i * 7 + 6, none⟩ = some (.slice s.aa s.al s.ac) ∧ W8.cell? ⟨p, 0, none⟩ = some (.pointer (some ⟨b, 0, none⟩)) ∧ W8.cell? ⟨q, 0, none⟩ = some (.pointer (some ⟨d, 0, none⟩))) ∧ ∃ K2 L2 σ', Two V W8 p b K1 L1 (stB s (8 * m2) Bp) σ1 q d K2 L2 (stB s (8 * m2) Bq) σ' ∧ StepOk (stB s (8 * m2) Bq) σ' ∧ σ'.n = m2 ∧ σ'.ops = o ∧ σ1.ops = o ∧ σ'.ops ≤ i + 1 ∧ σ1 = twin σ' af kp := by
            have ht7 : Two V W7.drew p b K1 L1 (stB s (8 * m2) Bp) σ1 q d Kq Lq Bq σ := HTW7.out.below (Below.refl _ W7).drew
            refine (two_play (k := i) s hsok ht7.swap hst.ok hst.off ⟨.inl hst.arms, by rw [hst.cnt]; omega⟩ (by rw [hst.cnt]; omega) hops (by have := HX.out.few; omega) hn hm1 (by omega) (hst.rel.lens hn) hcq).mono ?_
            rintro e W8 ⟨c5, K2, L2, σ', rfl, q1, q2, _⟩
            obtain ⟨rfl, t1, t2, t3⟩ := hst.step (by rw [hn]) hsok.v (by have := HX.out.few; omega) q1
            have e1 : σ'.ops = o := q1.ops.trans HO.out
            have e2 : σ1.ops = o := HSD.out.ops.trans HO.out
            have hts := (twin_step hst.arms hst.cnt q1 HSD.out hlt).2
            exact ⟨rfl, sY W8 _ _ _ _ _ _ _ _ q2.swap, K2, L2, σ', q2.swap, t1, t2.trans hn, e1, e2, by omega, by
              rcases hts with ⟨_, _, r3⟩ | ⟨r1, _, _⟩
              · exact r3
              · omega⟩
          have kops : ∀ W8, (∃ K2 L2 σ', Two V W8 p b K1 L1 (stB s (8 * m2) Bp) σ1 q d K2 L2 (stB s (8 * m2) Bq) σ' ∧ StepOk (stB s (8 * m2) Bq) σ' ∧ σ'.n = m2 ∧ σ'.ops = o ∧ σ1.ops = o ∧ σ'.ops ≤ i + 1 ∧ σ1 = twin σ' af kp) → (Calls Try.prog 11 #[.pointer (some ⟨b, 0, none⟩)] W8 fun e w' => e = .returned (.int .i64 (o : Int)) ∧ w' = W8) ∧ (Calls Try.prog 11 #[.pointer (some ⟨d, 0, none⟩)] W8 fun e w' => e = .returned (.int .i64 (o : Int)) ∧ w' = W8) := fun W8 ⟨K2, L2, σ', t1, t2, t3, t4, t5, _⟩ => by
            have h1 := pops_any t1.one.dev
            have h2 := pops_any t1.two.dev
            rw [t5] at h1
            rw [t4] at h2
            exact ⟨h1, h2⟩
          have KQ := hide kq8
          have KOPS := hide kops
          have S15 := hide (sY W7.drew _ _ _ _ _ _ _ _ (HTW7.out.below (Below.refl _ W7).drew))
          have IXS := hide (fun Y => index_step g off i ns c hin Y)
          clear kq8 kops sY rowW htw hst d0 d1 d2 d3 d4 d5 d6 ix hcp hcq HSD HTW7
          go_wp2_with (fail)
          refine wp_region_held_drew (S := fun Y => Y.cell? ⟨g, off + i * 7, none⟩ = some (.int .i64 s.k) ∧ Y.cell? ⟨g, off + i * 7 + 1, none⟩ = some (.int .i64 s.a) ∧ Y.cell? ⟨g, off + i * 7 + 2, none⟩ = some (.int .i64 s.n) ∧ Y.cell? ⟨g, off + i * 7 + 3, none⟩ = some (.int .u64 (s.v : Int)) ∧ Y.cell? ⟨g, off + i * 7 + 4, none⟩ = some (.slice s.da s.dl s.dc) ∧ Y.cell? ⟨g, off + i * 7 + 5, none⟩ = some (.slice s.ka s.kl s.kc) ∧ Y.cell? ⟨g, off + i * 7 + 6, none⟩ = some (.slice s.aa s.al s.ac) ∧ Y.cell? ⟨p, 0, none⟩ = some (.pointer (some ⟨b, 0, none⟩)) ∧ Y.cell? ⟨q, 0, none⟩ = some (.pointer (some ⟨d, 0, none⟩))) (by kernel_rfl) S15.out (fun hS => ?_)
          refine wpAnyH_take (i := 0) (v := (.pointer (some ⟨q, 0, none⟩))) rfl (by kernel_rfl) (by kernel_rfl) (by kernel_rfl) (fun _ _ _ h => h) (Or.inl ⟨by kernel_rfl, fun w' hw => by (go_simp)⟩) hS ?_
          refine wpAnyH_take (i := 1) (v := (.slice (some ⟨g, off, none⟩) ns c)) rfl (by kernel_rfl) (by kernel_rfl) (by kernel_rfl) (fun _ _ _ h => h) (Or.inl ⟨by kernel_rfl, fun w' hw => by (go_simp)⟩) hS ?_
          refine wpAnyH_take (i := 2) (v := (.int .i64 (i : Int))) rfl (by kernel_rfl) (by kernel_rfl) (by kernel_rfl) (fun _ _ _ h => h) (Or.inl ⟨by kernel_rfl, fun w' hw => by (go_simp)⟩) hS ?_
          refine wpAnyH_take (i := 3) (v := (.pointer (some ⟨g, off + i * 7, none⟩))) rfl (by kernel_rfl) (by kernel_rfl) (by kernel_rfl) (fun _ _ _ h => h) (Or.inl ⟨by kernel_rfl, fun w' hw => by (have e := IXS.out w'; go_simp)⟩) hS ?_
          refine wpAnyH_take (i := 4) (v := (.agg #[.int .i64 s.k, .int .i64 s.a, .int .i64 s.n, .int .u64 (s.v : Int), .slice s.da s.dl s.dc, .slice s.ka s.kl s.kc, .slice s.aa s.al s.ac])) rfl (by kernel_rfl) (by kernel_rfl) (by kernel_rfl) (fun _ _ _ h => h) (Or.inl ⟨by kernel_rfl, fun w' hw => by (obtain ⟨z0, z1, z2, z3, z4, z5, z6, z7, z8⟩ := hw; go_simp)⟩) hS ?_
          refine wpAnyH_goS (i := 5) (by kernel_rfl) rfl (by kernel_rfl) (fun K hK => ?_)
          go_wp2_with (go_at_call 10; refine (KQ.out).mono ?_; rintro e W8 ⟨rfl, s15b, hq8⟩; have HQ8 := hide hq8; clear hq8)
          refine hK.out _ _ s15b ?_
          clear hK K
          obtain ⟨kop, koq⟩ := KOPS.out W8 HQ8.out
          have KOP := hide kop
          have KOQ := hide koq
          clear kop koq
          refine wpAnyH_take (i := 6) (v := (.bool false)) rfl (by kernel_rfl) (by kernel_rfl) (by kernel_rfl) (fun _ _ _ h => h) (Or.inl ⟨by kernel_rfl, fun w' hw => by (go_simp)⟩) s15b ?_
          refine wpAnyH_take (i := 7) (v := (.bool false)) rfl (by kernel_rfl) (by kernel_rfl) (by kernel_rfl) (fun _ _ _ h => h) (Or.inl ⟨by kernel_rfl, fun w' hw => by (go_simp)⟩) s15b ?_
          refine wpAnyH_take (i := 8) (v := (.pointer (some ⟨p, 0, none⟩))) rfl (by kernel_rfl) (by kernel_rfl) (by kernel_rfl) (fun _ _ _ h => h) (Or.inl ⟨by kernel_rfl, fun w' hw => by (go_simp)⟩) s15b ?_
          refine wpAnyH_take (i := 9) (v := (.pointer (some ⟨p, 0, none⟩))) rfl (by kernel_rfl) (by kernel_rfl) (by kernel_rfl) (fun _ _ _ h => h) (Or.inl ⟨by kernel_rfl, fun w' hw => by (go_simp)⟩) s15b ?_
          refine wpAnyH_take (i := 10) (v := (.pointer (some ⟨p, 0, none⟩))) rfl (by kernel_rfl) (by kernel_rfl) (by kernel_rfl) (fun _ _ _ h => h) (Or.inl ⟨by kernel_rfl, fun w' hw => by (go_simp)⟩) s15b ?_
          refine wpAnyH_take (i := 11) (v := (.pointer (some ⟨b, 0, none⟩))) rfl (by kernel_rfl) (by kernel_rfl) (by kernel_rfl) (fun _ _ _ h => h) (Or.inl ⟨by kernel_rfl, fun w' hw => by (obtain ⟨z0, z1, z2, z3, z4, z5, z6, z7, z8⟩ := hw; go_simp)⟩) s15b ?_
          refine wpAnyH_take (i := 13) (v := (.pointer (some ⟨q, 0, none⟩))) rfl (by kernel_rfl) (by kernel_rfl) (by kernel_rfl) (fun _ _ _ h => h) (Or.inl ⟨by kernel_rfl, fun w' hw => by (go_simp)⟩) s15b ?_
          refine wpAnyH_take (i := 14) (v := (.pointer (some ⟨q, 0, none⟩))) rfl (by kernel_rfl) (by kernel_rfl) (by kernel_rfl) (fun _ _ _ h => h) (Or.inl ⟨by kernel_rfl, fun w' hw => by (go_simp)⟩) s15b ?_
          refine wpAnyH_take (i := 15) (v := (.pointer (some ⟨q, 0, none⟩))) rfl (by kernel_rfl) (by kernel_rfl) (by kernel_rfl) (fun _ _ _ h => h) (Or.inl ⟨by kernel_rfl, fun w' hw => by (go_simp)⟩) s15b ?_
          refine wpAnyH_take (i := 16) (v := (.pointer (some ⟨d, 0, none⟩))) rfl (by kernel_rfl) (by kernel_rfl) (by kernel_rfl) (fun _ _ _ h => h) (Or.inl ⟨by kernel_rfl, fun w' hw => by (obtain ⟨z0, z1, z2, z3, z4, z5, z6, z7, z8⟩ := hw; go_simp)⟩) s15b ?_
          refine wpAnyH_goS (i := 12) (by kernel_rfl) rfl (by kernel_rfl) (fun K hK => ?_)
          go_wp2_with (go_at_call 11; refine (KOP.out).mono ?_; rintro e w' ⟨rfl, hw⟩; obtain rfl := hw.symm)
          refine hK.out _ _ s15b ?_
          clear hK K
          refine wpAnyH_goS (i := 17) (by kernel_rfl) rfl (by kernel_rfl) (fun K hK => ?_)
          go_wp2_with (go_at_call 11; refine (KOQ.out).mono ?_; rintro e w' ⟨rfl, hw⟩; obtain rfl := hw.symm)
          refine hK.out _ _ s15b ?_
          clear hK K
          refine wpAnyH_take (i := 18) (v := (.bool false)) rfl (by kernel_rfl) (by kernel_rfl) (by kernel_rfl) (fun _ _ _ h => h) (Or.inl ⟨by kernel_rfl, fun w' hw => by (go_simp)⟩) s15b ?_
          refine wpAnyH_take (i := 19) (v := (.bool false)) rfl (by kernel_rfl) (by kernel_rfl) (by kernel_rfl) (fun _ _ _ h => h) (Or.inl ⟨by kernel_rfl, fun w' hw => by (go_simp)⟩) s15b ?_
          refine wpAnyH_done (by kernel_rfl) ?_ _
          simp only [Act.put, List.getElem_toArray, List.getElem_cons_zero, List.getElem_cons_succ, List.setIfInBounds_toArray, List.set_cons_zero, List.set_cons_succ]
          obtain ⟨K2, L2, σ', htw8, hst8, hn8, ho8, ho1, hops8, hres⟩ := HQ8.out
          subst hres
          have kof := poff_any htw8.one.dev
          rw [show (twin σ' af kp).off = false from hst8.off] at kof
          have KOF := hide kof
          have c0p : W8.cell? ⟨p, 0, none⟩ = some (.pointer (some ⟨b, 0, none⟩)) := htw8.one.pl.c 0
          have c0q : W8.cell? ⟨q, 0, none⟩ = some (.pointer (some ⟨d, 0, none⟩)) := htw8.two.pl.c 0
          have oaI : ¬ (o : Int) = (af : Int) := by omega
          have HT8 := hide htw8
          have HS8 := hide hst8
          have HF8 := hide (And.intro hn8 (And.intro ho8 hops8))
          clear kof htw8 hst8 hn8 ho8 ho1 hops8 HQ8 KQ KOPS S15 s15b
          go_wp2_with (first
            | (go_at_call 11; refine (KOQ.out).mono ?_; rintro e w' ⟨rfl, hw⟩; obtain rfl := hw.symm)
            | (go_at_call 18; refine (KOF.out).mono ?_; rintro e w' ⟨rfl, hw⟩; obtain rfl := hw.symm))
          go_roundw
          case rel =>
            obtain ⟨t1, t2, t3⟩ := HF8.out
            exact ⟨i + 1, K1, L1, _, K2, L2, _, σ', int_congrP (by omega), by omega, HT8.out, HS8.out, HLB.out.step s, t1, t3, by omega, stB_held HCP.out, stB_held HCQ2.out⟩
          case measure => simp [intOf]; omega
        · have kp7 : Calls Try.prog 10 #[.pointer (some ⟨p, 0, none⟩), .agg #[.int .i64 s.k, .int .i64 s.a, .int .i64 s.n, .int .u64 (s.v : Int), .slice s.da s.dl s.dc, .slice s.ka s.kl s.kc, .slice s.aa s.al s.ac]] wr fun e W7 => e = .returned (.bool false) ∧ ∃ K1 L1 σ1, StepD s (8 * m2) (twin σ af kp) 5 σ1 ∧ Two V W7 p b K1 L1 (stB s (8 * m2) Bp) σ1 q d Kq Lq Bq σ := by
            refine (two_play (k := i) s hsok htw (twin_ok hst.ok) hst.off ⟨.inr ⟨af, kp, rfl, HKB.out, by have := HKL.out; omega⟩, by show σ.ops < _; omega⟩ hops hops (by have := HX.out.few; omega) hn hm1 (by omega) hlen hcp).mono ?_
            rintro e W7 ⟨c5, K1, L1, σ1, rfl, q1, q2, _⟩
            obtain rfl : c5 = 5 := (twin_code hst.arms hst.cnt q1 hlt).2 (by rw [HO.out]; omega)
            exact ⟨rfl, K1, L1, σ1, q1, q2⟩
          have KP7 := hide kp7
          clear kp7
          go_upto_region 15 with (go_at_call 10; refine (KP7.out).mono ?_; rintro e W7 ⟨rfl, K1, L1, σ1, hsd, htw7⟩; have HSD := hide hsd; have HTW7 := hide htw7; clear hsd htw7)
          have rowW : ∀ Y, Below V.heap.size V Y → ∀ j v, s.vals.toList[j]? = some v → Y.cell? ⟨g, off + i * 7 + j, none⟩ = some v := fun Y hY => by
            obtain ⟨g2, off2, e2, _, hcl2⟩ := (HX.out.row.below (HWV.out.trans (hY.mono HWV.out.size))).at HSX.out
            cases e2
            exact hcl2
          have sY : ∀ Y K1 L1 B1 τ1 K2 L2 B2 τ2, Two V Y p b K1 L1 B1 τ1 q d K2 L2 B2 τ2 → Y.cell? ⟨g, off + i * 7, none⟩ = some (.int .i64 s.k) ∧ Y.cell? ⟨g, off + i * 7 + 1, none⟩ = some (.int .i64 s.a) ∧ Y.cell? ⟨g, off + i * 7 + 2, none⟩ = some (.int .i64 s.n) ∧ Y.cell? ⟨g, off + i * 7 + 3, none⟩ = some (.int .u64 (s.v : Int)) ∧ Y.cell? ⟨g, off + i * 7 + 4, none⟩ = some (.slice s.da s.dl s.dc) ∧ Y.cell? ⟨g, off + i * 7 + 5, none⟩ = some (.slice s.ka s.kl s.kc) ∧ Y.cell? ⟨g, off + i * 7 + 6, none⟩ = some (.slice s.aa s.al s.ac) ∧ Y.cell? ⟨p, 0, none⟩ = some (.pointer (some ⟨b, 0, none⟩)) ∧ Y.cell? ⟨q, 0, none⟩ = some (.pointer (some ⟨d, 0, none⟩)) := fun Y K1 L1 B1 τ1 K2 L2 B2 τ2 ht => by
            have hc := rowW Y ht.one.bel
            exact ⟨by simpa using hc 0 _ rfl, hc 1 _ rfl, hc 2 _ rfl, hc 3 _ rfl, hc 4 _ rfl, hc 5 _ rfl, hc 6 _ rfl, ht.one.pl.c 0, ht.two.pl.c 0⟩
          have kq8 : Calls Try.prog 10 #[.pointer (some ⟨q, 0, none⟩), .agg #[.int .i64 s.k, .int .i64 s.a, .int .i64 s.n, .int .u64 (s.v : Int), .slice s.da s.dl s.dc, .slice s.ka s.kl s.kc, .slice s.aa s.al s.ac]] W7.drew fun e W8 => e = .returned (.bool true) ∧ (W8.cell? ⟨g, off + i * 7, none⟩ = some (.int .i64 s.k) ∧ W8.cell? ⟨g, off + i * 7 + 1, none⟩ = some (.int .i64 s.a) ∧ W8.cell? ⟨g, off + i * 7 + 2, none⟩ = some (.int .i64 s.n) ∧ W8.cell? ⟨g, off + i * 7 + 3, none⟩ = some (.int .u64 (s.v : Int)) ∧ W8.cell? ⟨g, off + i * 7 + 4, none⟩ = some (.slice s.da s.dl s.dc) ∧ W8.cell? ⟨g, off + i * 7 + 5, none⟩ = some (.slice s.ka s.kl s.kc) ∧ W8.cell? ⟨g, off + i * 7 + 6, none⟩ = some (.slice s.aa s.al s.ac) ∧ W8.cell? ⟨p, 0, none⟩ = some (.pointer (some ⟨b, 0, none⟩)) ∧ W8.cell? ⟨q, 0, none⟩ = some (.pointer (some ⟨d, 0, none⟩))) ∧ ∃ K2 L2 σ', Two V W8 p b K1 L1 (stB s (8 * m2) Bp) σ1 q d K2 L2 (stB s (8 * m2) Bq) σ' ∧ StepOk (stB s (8 * m2) Bq) σ' ∧ σ'.n = m2 ∧ σ'.ops = o ∧ σ1.ops = o ∧ σ'.ops ≤ i + 1 ∧ Lost σ' kp σ1 := by
            have ht7 : Two V W7.drew p b K1 L1 (stB s (8 * m2) Bp) σ1 q d Kq Lq Bq σ := HTW7.out.below (Below.refl _ W7).drew
            refine (two_play (k := i) s hsok ht7.swap hst.ok hst.off ⟨.inl hst.arms, by rw [hst.cnt]; omega⟩ (by rw [hst.cnt]; omega) hops (by have := HX.out.few; omega) hn hm1 (by omega) (hst.rel.lens hn) hcq).mono ?_
            rintro e W8 ⟨c5, K2, L2, σ', rfl, q1, q2, _⟩
            obtain ⟨rfl, t1, t2, t3⟩ := hst.step (by rw [hn]) hsok.v (by have := HX.out.few; omega) q1
            have e1 : σ'.ops = o := q1.ops.trans HO.out
            have e2 : σ1.ops = o := HSD.out.ops.trans HO.out
            have hts := (twin_step hst.arms hst.cnt q1 HSD.out hlt).2
            exact ⟨rfl, sY W8 _ _ _ _ _ _ _ _ q2.swap, K2, L2, σ', q2.swap, t1, t2.trans hn, e1, e2, by omega, by
              rcases hts with ⟨r1, _, _⟩ | ⟨_, _, r3⟩
              · omega
              · exact r3⟩
          have kops : ∀ W8, (∃ K2 L2 σ', Two V W8 p b K1 L1 (stB s (8 * m2) Bp) σ1 q d K2 L2 (stB s (8 * m2) Bq) σ' ∧ StepOk (stB s (8 * m2) Bq) σ' ∧ σ'.n = m2 ∧ σ'.ops = o ∧ σ1.ops = o ∧ σ'.ops ≤ i + 1 ∧ Lost σ' kp σ1) → (Calls Try.prog 11 #[.pointer (some ⟨b, 0, none⟩)] W8 fun e w' => e = .returned (.int .i64 (o : Int)) ∧ w' = W8) ∧ (Calls Try.prog 11 #[.pointer (some ⟨d, 0, none⟩)] W8 fun e w' => e = .returned (.int .i64 (o : Int)) ∧ w' = W8) := fun W8 ⟨K2, L2, σ', t1, t2, t3, t4, t5, _⟩ => by
            have h1 := pops_any t1.one.dev
            have h2 := pops_any t1.two.dev
            rw [t5] at h1
            rw [t4] at h2
            exact ⟨h1, h2⟩
          have KQ := hide kq8
          have KOPS := hide kops
          have S15 := hide (sY W7.drew _ _ _ _ _ _ _ _ (HTW7.out.below (Below.refl _ W7).drew))
          have IXS := hide (fun Y => index_step g off i ns c hin Y)
          clear kq8 kops sY rowW htw hst d0 d1 d2 d3 d4 d5 d6 ix hcp hcq HSD HTW7
          go_wp2_with (fail)
          refine wp_region_held_drew (S := fun Y => Y.cell? ⟨g, off + i * 7, none⟩ = some (.int .i64 s.k) ∧ Y.cell? ⟨g, off + i * 7 + 1, none⟩ = some (.int .i64 s.a) ∧ Y.cell? ⟨g, off + i * 7 + 2, none⟩ = some (.int .i64 s.n) ∧ Y.cell? ⟨g, off + i * 7 + 3, none⟩ = some (.int .u64 (s.v : Int)) ∧ Y.cell? ⟨g, off + i * 7 + 4, none⟩ = some (.slice s.da s.dl s.dc) ∧ Y.cell? ⟨g, off + i * 7 + 5, none⟩ = some (.slice s.ka s.kl s.kc) ∧ Y.cell? ⟨g, off + i * 7 + 6, none⟩ = some (.slice s.aa s.al s.ac) ∧ Y.cell? ⟨p, 0, none⟩ = some (.pointer (some ⟨b, 0, none⟩)) ∧ Y.cell? ⟨q, 0, none⟩ = some (.pointer (some ⟨d, 0, none⟩))) (by kernel_rfl) S15.out (fun hS => ?_)
          refine wpAnyH_take (i := 0) (v := (.pointer (some ⟨q, 0, none⟩))) rfl (by kernel_rfl) (by kernel_rfl) (by kernel_rfl) (fun _ _ _ h => h) (Or.inl ⟨by kernel_rfl, fun w' hw => by (go_simp)⟩) hS ?_
          refine wpAnyH_take (i := 1) (v := (.slice (some ⟨g, off, none⟩) ns c)) rfl (by kernel_rfl) (by kernel_rfl) (by kernel_rfl) (fun _ _ _ h => h) (Or.inl ⟨by kernel_rfl, fun w' hw => by (go_simp)⟩) hS ?_
          refine wpAnyH_take (i := 2) (v := (.int .i64 (i : Int))) rfl (by kernel_rfl) (by kernel_rfl) (by kernel_rfl) (fun _ _ _ h => h) (Or.inl ⟨by kernel_rfl, fun w' hw => by (go_simp)⟩) hS ?_
          refine wpAnyH_take (i := 3) (v := (.pointer (some ⟨g, off + i * 7, none⟩))) rfl (by kernel_rfl) (by kernel_rfl) (by kernel_rfl) (fun _ _ _ h => h) (Or.inl ⟨by kernel_rfl, fun w' hw => by (have e := IXS.out w'; go_simp)⟩) hS ?_
          refine wpAnyH_take (i := 4) (v := (.agg #[.int .i64 s.k, .int .i64 s.a, .int .i64 s.n, .int .u64 (s.v : Int), .slice s.da s.dl s.dc, .slice s.ka s.kl s.kc, .slice s.aa s.al s.ac])) rfl (by kernel_rfl) (by kernel_rfl) (by kernel_rfl) (fun _ _ _ h => h) (Or.inl ⟨by kernel_rfl, fun w' hw => by (obtain ⟨z0, z1, z2, z3, z4, z5, z6, z7, z8⟩ := hw; go_simp)⟩) hS ?_
          refine wpAnyH_goS (i := 5) (by kernel_rfl) rfl (by kernel_rfl) (fun K hK => ?_)
          go_wp2_with (go_at_call 10; refine (KQ.out).mono ?_; rintro e W8 ⟨rfl, s15b, hq8⟩; have HQ8 := hide hq8; clear hq8)
          refine hK.out _ _ s15b ?_
          clear hK K
          obtain ⟨kop, koq⟩ := KOPS.out W8 HQ8.out
          have KOP := hide kop
          have KOQ := hide koq
          clear kop koq
          refine wpAnyH_take (i := 6) (v := (.bool false)) rfl (by kernel_rfl) (by kernel_rfl) (by kernel_rfl) (fun _ _ _ h => h) (Or.inl ⟨by kernel_rfl, fun w' hw => by (go_simp)⟩) s15b ?_
          refine wpAnyH_take (i := 7) (v := (.bool false)) rfl (by kernel_rfl) (by kernel_rfl) (by kernel_rfl) (fun _ _ _ h => h) (Or.inl ⟨by kernel_rfl, fun w' hw => by (go_simp)⟩) s15b ?_
          refine wpAnyH_take (i := 8) (v := (.pointer (some ⟨p, 0, none⟩))) rfl (by kernel_rfl) (by kernel_rfl) (by kernel_rfl) (fun _ _ _ h => h) (Or.inl ⟨by kernel_rfl, fun w' hw => by (go_simp)⟩) s15b ?_
          refine wpAnyH_take (i := 9) (v := (.pointer (some ⟨p, 0, none⟩))) rfl (by kernel_rfl) (by kernel_rfl) (by kernel_rfl) (fun _ _ _ h => h) (Or.inl ⟨by kernel_rfl, fun w' hw => by (go_simp)⟩) s15b ?_
          refine wpAnyH_take (i := 10) (v := (.pointer (some ⟨p, 0, none⟩))) rfl (by kernel_rfl) (by kernel_rfl) (by kernel_rfl) (fun _ _ _ h => h) (Or.inl ⟨by kernel_rfl, fun w' hw => by (go_simp)⟩) s15b ?_
          refine wpAnyH_take (i := 11) (v := (.pointer (some ⟨b, 0, none⟩))) rfl (by kernel_rfl) (by kernel_rfl) (by kernel_rfl) (fun _ _ _ h => h) (Or.inl ⟨by kernel_rfl, fun w' hw => by (obtain ⟨z0, z1, z2, z3, z4, z5, z6, z7, z8⟩ := hw; go_simp)⟩) s15b ?_
          refine wpAnyH_take (i := 13) (v := (.pointer (some ⟨q, 0, none⟩))) rfl (by kernel_rfl) (by kernel_rfl) (by kernel_rfl) (fun _ _ _ h => h) (Or.inl ⟨by kernel_rfl, fun w' hw => by (go_simp)⟩) s15b ?_
          refine wpAnyH_take (i := 14) (v := (.pointer (some ⟨q, 0, none⟩))) rfl (by kernel_rfl) (by kernel_rfl) (by kernel_rfl) (fun _ _ _ h => h) (Or.inl ⟨by kernel_rfl, fun w' hw => by (go_simp)⟩) s15b ?_
          refine wpAnyH_take (i := 15) (v := (.pointer (some ⟨q, 0, none⟩))) rfl (by kernel_rfl) (by kernel_rfl) (by kernel_rfl) (fun _ _ _ h => h) (Or.inl ⟨by kernel_rfl, fun w' hw => by (go_simp)⟩) s15b ?_
          refine wpAnyH_take (i := 16) (v := (.pointer (some ⟨d, 0, none⟩))) rfl (by kernel_rfl) (by kernel_rfl) (by kernel_rfl) (fun _ _ _ h => h) (Or.inl ⟨by kernel_rfl, fun w' hw => by (obtain ⟨z0, z1, z2, z3, z4, z5, z6, z7, z8⟩ := hw; go_simp)⟩) s15b ?_
          refine wpAnyH_goS (i := 12) (by kernel_rfl) rfl (by kernel_rfl) (fun K hK => ?_)
          go_wp2_with (go_at_call 11; refine (KOP.out).mono ?_; rintro e w' ⟨rfl, hw⟩; obtain rfl := hw.symm)
          refine hK.out _ _ s15b ?_
          clear hK K
          refine wpAnyH_goS (i := 17) (by kernel_rfl) rfl (by kernel_rfl) (fun K hK => ?_)
          go_wp2_with (go_at_call 11; refine (KOQ.out).mono ?_; rintro e w' ⟨rfl, hw⟩; obtain rfl := hw.symm)
          refine hK.out _ _ s15b ?_
          clear hK K
          refine wpAnyH_take (i := 18) (v := (.bool false)) rfl (by kernel_rfl) (by kernel_rfl) (by kernel_rfl) (fun _ _ _ h => h) (Or.inl ⟨by kernel_rfl, fun w' hw => by (go_simp)⟩) s15b ?_
          refine wpAnyH_take (i := 19) (v := (.bool false)) rfl (by kernel_rfl) (by kernel_rfl) (by kernel_rfl) (fun _ _ _ h => h) (Or.inl ⟨by kernel_rfl, fun w' hw => by (go_simp)⟩) s15b ?_
          refine wpAnyH_done (by kernel_rfl) ?_ _
          simp only [Act.put, List.getElem_toArray, List.getElem_cons_zero, List.getElem_cons_succ, List.setIfInBounds_toArray, List.set_cons_zero, List.set_cons_succ]
          obtain ⟨K2, L2, σ', htw8, hst8, hn8, ho8, ho1, hops8, hres⟩ := HQ8.out
          have hoe : o = af := by omega
          have c0q : W8.cell? ⟨q, 0, none⟩ = some (.pointer (some ⟨d, 0, none⟩)) := htw8.two.pl.c 0
          have ok1 : σ1.Ok := Lost.ok hst8.ok hres
          have n1 : σ1.n = m2 := hres.n.trans hn8
          have ht8 : Two V W8.drew p b K1 L1 (stB s (8 * m2) Bp) σ1 q d K2 L2 (stB s (8 * m2) Bq) σ' := htw8.below (Below.refl _ W8).drew
          have KOFF := hide (off_any ht8.one.dev ok1 hres.off)
          have S18 := hide (show W8.drew.cell? ⟨p, 0, none⟩ = some (.pointer (some ⟨b, 0, none⟩)) ∧ W8.drew.cell? ⟨q, 0, none⟩ = some (.pointer (some ⟨d, 0, none⟩)) from ⟨ht8.one.pl.c 0, ht8.two.pl.c 0⟩)
          have nxa : ∀ WA, Below W8.drew.heap.size W8.drew WA → (WA.cell? ⟨p, 0, none⟩ = some (.pointer (some ⟨b, 0, none⟩)) ∧ WA.cell? ⟨q, 0, none⟩ = some (.pointer (some ⟨d, 0, none⟩))) ∧ Calls Try.prog 9 #[.slice none 0 0] WA fun e WB => ∃ ca cc, e = .returned (.slice ca 0 cc) ∧ (WB.cell? ⟨p, 0, none⟩ = some (.pointer (some ⟨b, 0, none⟩)) ∧ WB.cell? ⟨q, 0, none⟩ = some (.pointer (some ⟨d, 0, none⟩))) ∧ Calls Try.prog 13 #[.pointer (some ⟨d, 0, none⟩), .slice ca 0 cc] WB fun e WC => e = .returned (.int .i64 0) ∧ (WC.cell? ⟨p, 0, none⟩ = some (.pointer (some ⟨b, 0, none⟩)) ∧ WC.cell? ⟨q, 0, none⟩ = some (.pointer (some ⟨d, 0, none⟩))) ∧ (∃ L3 σ3, Two V WC p b K1 L1 (stB s (8 * m2) Bp) σ1 q d K2 L3 (stB s (8 * m2) Bq) σ3) ∧ Calls Try.prog 15 #[.pointer (some ⟨b, 0, none⟩)] WC fun e WD => e = .returned (.slice (some ⟨WC.heap.size, 0, none⟩) (64 * m2) (64 * m2)) ∧ (WD.cell? ⟨p, 0, none⟩ = some (.pointer (some ⟨b, 0, none⟩)) ∧ WD.cell? ⟨q, 0, none⟩ = some (.pointer (some ⟨d, 0, none⟩))) ∧
                Calls Try.prog 15 #[.pointer (some ⟨d, 0, none⟩)] WD fun e WE => e = .returned (.slice (some ⟨WD.heap.size, 0, none⟩) (64 * m2) (64 * m2)) ∧ (WE.cell? ⟨p, 0, none⟩ = some (.pointer (some ⟨b, 0, none⟩)) ∧ WE.cell? ⟨q, 0, none⟩ = some (.pointer (some ⟨d, 0, none⟩))) ∧
                  Calls Try.prog 14 #[.slice (some ⟨WC.heap.size, 0, none⟩) (64 * m2) (64 * m2), .slice (some ⟨WD.heap.size, 0, none⟩) (64 * m2) (64 * m2)] WE fun e WF => e = .returned (.bool true) ∧ (WF.cell? ⟨p, 0, none⟩ = some (.pointer (some ⟨b, 0, none⟩)) ∧ WF.cell? ⟨q, 0, none⟩ = some (.pointer (some ⟨d, 0, none⟩))) ∧ Below WC.heap.size WC WF := fun WA hA => by
            have tA := ht8.below hA
            refine ⟨⟨tA.one.pl.c 0, tA.two.pl.c 0⟩, (copyInts_any 0 0 (HZ2.out.below tA.one.bel) HNK.out (by omega)).mono ?_⟩
            rintro e WB ⟨ca, cc, rfl, q1, q2⟩
            have tB := tA.below q2
            refine ⟨ca, cc, rfl, ⟨tB.one.pl.c 0, tB.two.pl.c 0⟩, ?_⟩
            have hk := q1.slN HNK.out HZ2.out.1 HNG.out
            have hc := pcrash_any cc tB.two.dev hst8.ok hst8.off hk (by rw [List.length_map, HNK.out]; omega)
            rw [List.length_map, HNK.out] at hc
            refine hc.mono ?_
            rintro e WC ⟨rfl, L3, σ3, r1, r2, r3, r4, r5⟩
            have hsub : ∀ k, (k = d ∨ k = L2.sb) → Foot d L2 σ' k := fun k hk => hk.elim (fun e => .inl e) (fun e => .inr (.inl e))
            have hpq : PlL WC q d K2 (stB s (8 * m2) Bq) := tB.two.pl.gr r4 (fun k hk hx => tB.two.dis k hk (hsub k hx))
            have tC := (tB.swap.step r2 (by rw [r1.ops]; have := tB.two.num; omega) hpq (r4.mono (fun k hk => .inl (hsub k hk))) r3 (fun k hk hf => by
              rcases r3 k hf with h5 | h5
              · exact tB.two.dis k hk h5
              · have := tB.two.pl.lt hk; omega) (fun k hk => .inl hk)).swap
            have hbb : σ1.bytes = σ3.bytes := lost_same hres r1 (fun i hi => HKE.out i (by rw [← hn8]; exact hi))
            exact ⟨rfl, ⟨tC.one.pl.c 0, tC.two.pl.c 0⟩, ⟨L3, σ3, tC⟩, two_images tC ok1 (Lost.ok hst8.ok r1) n1 (r1.n.trans hn8) (by omega) hbb WC (Below.refl _ _)⟩
          have NXA := hide nxa
          have oaI : (o : Int) = (af : Int) := by omega
          have HL1 := hide hres
          have HOK1 := hide ok1
          have HAR := hide hst8.arms
          have HO1 := hide (show σ1.ops < 1400000000000 from by have := HX.out.few; omega)
          obtain ⟨nb, hnb⟩ : ∃ nb, 64 * m2 = nb := ⟨_, rfl⟩
          rw [hnb] at NXA
          clear nxa htw8 hst8 hn8 ho8 ho1 hops8 HQ8 KQ KOPS S15 s15b ok1 n1 ht8 hres hoe hnb
          go_upto_region 18 with (go_at_call 11; refine (KOQ.out).mono ?_; rintro e w' ⟨rfl, hw⟩; obtain rfl := hw.symm)
          go_wp2_with (fail)
          refine wp_region_held_drew (S := fun Y => Y.cell? ⟨p, 0, none⟩ = some (.pointer (some ⟨b, 0, none⟩)) ∧ Y.cell? ⟨q, 0, none⟩ = some (.pointer (some ⟨d, 0, none⟩))) (by kernel_rfl) S18.out (fun hS => ?_)
          refine wpAnyH_take (i := 0) (v := (.bool false)) rfl (by kernel_rfl) (by kernel_rfl) (by kernel_rfl) (fun _ _ _ h => h) (Or.inl ⟨by kernel_rfl, fun w' hw => by (go_simp)⟩) hS ?_
          refine wpAnyH_take (i := 1) (v := (.bool false)) rfl (by kernel_rfl) (by kernel_rfl) (by kernel_rfl) (fun _ _ _ h => h) (Or.inl ⟨by kernel_rfl, fun w' hw => by (go_simp)⟩) hS ?_
          refine wpAnyH_take (i := 2) (v := (.pointer (some ⟨p, 0, none⟩))) rfl (by kernel_rfl) (by kernel_rfl) (by kernel_rfl) (fun _ _ _ h => h) (Or.inl ⟨by kernel_rfl, fun w' hw => by (go_simp)⟩) hS ?_
          refine wpAnyH_take (i := 3) (v := (.pointer (some ⟨p, 0, none⟩))) rfl (by kernel_rfl) (by kernel_rfl) (by kernel_rfl) (fun _ _ _ h => h) (Or.inl ⟨by kernel_rfl, fun w' hw => by (go_simp)⟩) hS ?_
          refine wpAnyH_take (i := 4) (v := (.pointer (some ⟨p, 0, none⟩))) rfl (by kernel_rfl) (by kernel_rfl) (by kernel_rfl) (fun _ _ _ h => h) (Or.inl ⟨by kernel_rfl, fun w' hw => by (go_simp)⟩) hS ?_
          refine wpAnyH_take (i := 5) (v := (.pointer (some ⟨b, 0, none⟩))) rfl (by kernel_rfl) (by kernel_rfl) (by kernel_rfl) (fun _ _ _ h => h) (Or.inl ⟨by kernel_rfl, fun w' hw => by (obtain ⟨z0, z1⟩ := hw; go_simp)⟩) hS ?_
          refine wpAnyH_goS (i := 6) (by kernel_rfl) rfl (by kernel_rfl) (fun K hK => ?_)
          go_wp2_with (go_at_call 12; refine (KOFF.out).mono ?_; rintro e WA ⟨rfl, hba⟩; obtain ⟨sA, tA⟩ := NXA.out WA hba; have TA := hide tA; clear hba tA)
          refine hK.out _ _ sA ?_
          clear hK K
          refine wpAnyH_take (i := 7) (v := (.bool false)) rfl (by kernel_rfl) (by kernel_rfl) (by kernel_rfl) (fun _ _ _ h => h) (Or.inl ⟨by kernel_rfl, fun w' hw => by (go_simp)⟩) sA ?_
          refine wpAnyH_take (i := 8) (v := (.bool false)) rfl (by kernel_rfl) (by kernel_rfl) (by kernel_rfl) (fun _ _ _ h => h) (Or.inl ⟨by kernel_rfl, fun w' hw => by (go_simp)⟩) sA ?_
          refine wpAnyH_take (i := 9) (v := (.bool false)) rfl (by kernel_rfl) (by kernel_rfl) (by kernel_rfl) (fun _ _ _ h => h) (Or.inl ⟨by kernel_rfl, fun w' hw => by (go_simp)⟩) sA ?_
          refine wpAnyH_take (i := 10) (v := (.pointer (some ⟨q, 0, none⟩))) rfl (by kernel_rfl) (by kernel_rfl) (by kernel_rfl) (fun _ _ _ h => h) (Or.inl ⟨by kernel_rfl, fun w' hw => by (go_simp)⟩) sA ?_
          refine wpAnyH_take (i := 11) (v := (.pointer (some ⟨q, 0, none⟩))) rfl (by kernel_rfl) (by kernel_rfl) (by kernel_rfl) (fun _ _ _ h => h) (Or.inl ⟨by kernel_rfl, fun w' hw => by (go_simp)⟩) sA ?_
          refine wpAnyH_take (i := 12) (v := (.pointer (some ⟨q, 0, none⟩))) rfl (by kernel_rfl) (by kernel_rfl) (by kernel_rfl) (fun _ _ _ h => h) (Or.inl ⟨by kernel_rfl, fun w' hw => by (go_simp)⟩) sA ?_
          refine wpAnyH_take (i := 13) (v := (.pointer (some ⟨d, 0, none⟩))) rfl (by kernel_rfl) (by kernel_rfl) (by kernel_rfl) (fun _ _ _ h => h) (Or.inl ⟨by kernel_rfl, fun w' hw => by (obtain ⟨z0, z1⟩ := hw; go_simp)⟩) sA ?_
          refine wpAnyH_take (i := 14) (v := (.slice none 0 0)) rfl (by kernel_rfl) (by kernel_rfl) (by kernel_rfl) (fun _ _ _ h => h) (Or.inl ⟨by kernel_rfl, fun w' hw => by (go_simp)⟩) sA ?_
          refine wpAnyH_goS (i := 15) (by kernel_rfl) rfl (by kernel_rfl) (fun K hK => ?_)
          go_wp2_with (go_at_call 9; refine (TA.out).mono ?_; rintro e WB ⟨ca2, cc2, rfl, sB, tB⟩; have TB := hide tB; clear tB)
          refine hK.out _ _ sB ?_
          clear hK K
          refine wpAnyH_goS (i := 16) (by kernel_rfl) rfl (by kernel_rfl) (fun K hK => ?_)
          go_wp2_with (go_at_call 13; refine (TB.out).mono ?_; rintro e WC ⟨rfl, sC, tw, tC⟩; have TWC := hide tw; have TC := hide tC; clear tw tC)
          refine hK.out _ _ sC ?_
          clear hK K
          refine wpAnyH_take (i := 17) (v := (.bool false)) rfl (by kernel_rfl) (by kernel_rfl) (by kernel_rfl) (fun _ _ _ h => h) (Or.inl ⟨by kernel_rfl, fun w' hw => by (go_simp)⟩) sC ?_
          refine wpAnyH_take (i := 18) (v := (.bool false)) rfl (by kernel_rfl) (by kernel_rfl) (by kernel_rfl) (fun _ _ _ h => h) (Or.inl ⟨by kernel_rfl, fun w' hw => by (go_simp)⟩) sC ?_
          refine wpAnyH_take (i := 19) (v := (.bool false)) rfl (by kernel_rfl) (by kernel_rfl) (by kernel_rfl) (fun _ _ _ h => h) (Or.inl ⟨by kernel_rfl, fun w' hw => by (go_simp)⟩) sC ?_
          refine wpAnyH_take (i := 20) (v := (.pointer (some ⟨p, 0, none⟩))) rfl (by kernel_rfl) (by kernel_rfl) (by kernel_rfl) (fun _ _ _ h => h) (Or.inl ⟨by kernel_rfl, fun w' hw => by (go_simp)⟩) sC ?_
          refine wpAnyH_take (i := 21) (v := (.pointer (some ⟨p, 0, none⟩))) rfl (by kernel_rfl) (by kernel_rfl) (by kernel_rfl) (fun _ _ _ h => h) (Or.inl ⟨by kernel_rfl, fun w' hw => by (go_simp)⟩) sC ?_
          refine wpAnyH_take (i := 22) (v := (.pointer (some ⟨p, 0, none⟩))) rfl (by kernel_rfl) (by kernel_rfl) (by kernel_rfl) (fun _ _ _ h => h) (Or.inl ⟨by kernel_rfl, fun w' hw => by (go_simp)⟩) sC ?_
          refine wpAnyH_take (i := 23) (v := (.pointer (some ⟨b, 0, none⟩))) rfl (by kernel_rfl) (by kernel_rfl) (by kernel_rfl) (fun _ _ _ h => h) (Or.inl ⟨by kernel_rfl, fun w' hw => by (obtain ⟨z0, z1⟩ := hw; go_simp)⟩) sC ?_
          refine wpAnyH_take (i := 25) (v := (.pointer (some ⟨q, 0, none⟩))) rfl (by kernel_rfl) (by kernel_rfl) (by kernel_rfl) (fun _ _ _ h => h) (Or.inl ⟨by kernel_rfl, fun w' hw => by (go_simp)⟩) sC ?_
          refine wpAnyH_take (i := 26) (v := (.pointer (some ⟨q, 0, none⟩))) rfl (by kernel_rfl) (by kernel_rfl) (by kernel_rfl) (fun _ _ _ h => h) (Or.inl ⟨by kernel_rfl, fun w' hw => by (go_simp)⟩) sC ?_
          refine wpAnyH_take (i := 27) (v := (.pointer (some ⟨q, 0, none⟩))) rfl (by kernel_rfl) (by kernel_rfl) (by kernel_rfl) (fun _ _ _ h => h) (Or.inl ⟨by kernel_rfl, fun w' hw => by (go_simp)⟩) sC ?_
          refine wpAnyH_take (i := 28) (v := (.pointer (some ⟨d, 0, none⟩))) rfl (by kernel_rfl) (by kernel_rfl) (by kernel_rfl) (fun _ _ _ h => h) (Or.inl ⟨by kernel_rfl, fun w' hw => by (obtain ⟨z0, z1⟩ := hw; go_simp)⟩) sC ?_
          refine wpAnyH_goS (i := 24) (by kernel_rfl) rfl (by kernel_rfl) (fun K hK => ?_)
          go_wp2_with (go_at_call 15; refine (TC.out).mono ?_; rintro e WD ⟨rfl, sD, tD⟩; have TD := hide tD; clear tD)
          refine hK.out _ _ sD ?_
          clear hK K
          refine wpAnyH_goS (i := 29) (by kernel_rfl) rfl (by kernel_rfl) (fun K hK => ?_)
          go_wp2_with (go_at_call 15; refine (TD.out).mono ?_; rintro e WE ⟨rfl, sE, tE⟩; have TE := hide tE; clear tE)
          refine hK.out _ _ sE ?_
          clear hK K
          refine wpAnyH_goS (i := 30) (by kernel_rfl) rfl (by kernel_rfl) (fun K hK => ?_)
          go_wp2_with (go_at_call 14; refine (TE.out).mono ?_; rintro e WF ⟨rfl, sF, tF⟩; have TF := hide tF; clear tF)
          refine hK.out _ _ sF ?_
          clear hK K
          refine wpAnyH_take (i := 31) (v := (.bool false)) rfl (by kernel_rfl) (by kernel_rfl) (by kernel_rfl) (fun _ _ _ h => h) (Or.inl ⟨by kernel_rfl, fun w' hw => by (go_simp)⟩) sF ?_
          refine wpAnyH_take (i := 32) (v := (.bool false)) rfl (by kernel_rfl) (by kernel_rfl) (by kernel_rfl) (fun _ _ _ h => h) (Or.inl ⟨by kernel_rfl, fun w' hw => by (go_simp)⟩) sF ?_
          refine wpAnyH_done (by kernel_rfl) ?_ _
          simp only [Act.put, List.getElem_toArray, List.getElem_cons_zero, List.getElem_cons_succ, List.setIfInBounds_toArray, List.set_cons_zero, List.set_cons_succ]
          obtain ⟨L3, σ3, tC⟩ := TWC.out
          have tF := tC.below TF.out
          have kw1 := pwake_off tF.one.dev HL1.out.off
          have hs7 : Gr (fun k => k = b) WF (WF.setCell ⟨b, 7, none⟩ (.bool false)) := Gr.set WF b 7 _ (X := fun k => k = b) rfl
          have KW1 := hide kw1
          have okw : ({ σ1 with off := false } : St).Ok := by have h := HOK1.out; exact ⟨h.pos, h.max, h.len, h.byte, h.out, h.clen, h.cbyte, h.few, h.flp, h.opsm⟩
          have fin : ∀ hd : DevL (WF.setCell ⟨b, 7, none⟩ (.bool false)) b L1 { σ1 with off := false }, (WF.setCell ⟨b, 7, none⟩ (.bool false)).cell? ⟨p, 0, none⟩ = some (.pointer (some ⟨b, 0, none⟩)) ∧ (Calls Try.prog 16 #[.pointer (some ⟨b, 0, none⟩)] (WF.setCell ⟨b, 7, none⟩ (.bool false)) fun e w' => e = .returned (.int .i64 3) ∧ w' = (WF.setCell ⟨b, 7, none⟩ (.bool false))) ∧ Calls Try.prog 17 #[.pointer (some ⟨b, 0, none⟩)] (WF.setCell ⟨b, 7, none⟩ (.bool false)) fun e w' => e = .returned (.int .i64 0) ∧ Below w.heap.size w w' := fun hd => by
            have hp9 : PlL (WF.setCell ⟨b, 7, none⟩ (.bool false)) p b K1 (stB s (8 * m2) Bp) := tF.one.pl.gr hs7 (fun k hk e => tF.one.dis k hk (.inl e))
            have t9 := tF.step hd tF.one.num hp9 (hs7.mono (fun k hk => .inl (.inl hk))) (fun k hk => .inl hk) tF.one.dis (fun k hk => .inl hk)
            refine ⟨hp9.c 0, pwake_on hd rfl, (pfence_any hd okw rfl (by show σ1.arms = []; rw [HL1.out.arms]; exact HAR.out) HO1.out).mono ?_⟩
            rintro e w' ⟨rfl, L4, q1, q2, q3, q4⟩
            refine ⟨rfl, HWV.out.trans ?_⟩
            have hb9 := t9.one.bel
            have h5 : Below V.heap.size V w' := ⟨q3.1.trans hb9.os, q3.2.1.trans hb9.tape, q3.2.2.1.trans hb9.output, Nat.le_trans hb9.size q3.size, fun k hk => (q3.block (Nat.lt_of_lt_of_le hk hb9.size) (fun hf => by have := t9.one.fd k hf; omega)).trans (hb9.block k hk)⟩
            exact h5.mono HWV.out.size
          have FIN := hide fin
          obtain ⟨sF1, sF2⟩ := sF
          have M1 := hide trivial
          clear kw1 hs7 okw fin tF tC TF TWC sF2
          go_wp2_with (first
            | (go_at_call 16; have M1' := M1; clear M1' M1; refine (KW1.out).mono ?_; rintro e w' ⟨rfl, rfl, hd⟩; obtain ⟨z1, z2, z3⟩ := FIN.out hd; have Z2 := hide z2; have Z3 := hide z3; clear hd z2 z3)
            | (go_at_call 16; refine (Z2.out).mono ?_; rintro e w' ⟨rfl, hw⟩; obtain rfl := hw.symm)
            | (go_at_call 17; refine (Z3.out).mono ?_; rintro e w' ⟨rfl, hw9⟩; have HW9 := hide hw9; clear hw9))
          go_ret
          exact ⟨rfl, HW9.out⟩
      · have iI : ¬ (i : Int) < (ns : Int) := by omega
        obtain ⟨nb, hnb⟩ : ∃ nb, 64 * m2 = nb := ⟨_, rfl⟩
        have kim := two_images (htw.below (Below.refl _ wr).drew) (twin_ok hst.ok) hst.ok (show (twin σ af kp).n = m2 from hn) hn (by omega) (show (twin σ af kp).bytes = σ.bytes from rfl) wr.drew (Below.refl _ _)
        rw [hnb] at kim
        have KIM := hide kim
        have S23 := hide (show wr.drew.cell? ⟨p, 0, none⟩ = some (.pointer (some ⟨b, 0, none⟩)) ∧ wr.drew.cell? ⟨q, 0, none⟩ = some (.pointer (some ⟨d, 0, none⟩)) from ⟨htw.one.pl.c 0, htw.two.pl.c 0⟩)
        have HBW := hide htw.one.bel
        clear kim htw hst hlen hcp hcq hnb
        go_wp2_with (fail)
        refine wp_region_held_drew (S := fun Y => Y.cell? ⟨p, 0, none⟩ = some (.pointer (some ⟨b, 0, none⟩)) ∧ Y.cell? ⟨q, 0, none⟩ = some (.pointer (some ⟨d, 0, none⟩))) (by kernel_rfl) S23.out (fun hS => ?_)
        refine wpAnyH_take (i := 0) (v := (.pointer (some ⟨p, 0, none⟩))) rfl (by kernel_rfl) (by kernel_rfl) (by kernel_rfl) (fun _ _ _ h => h) (Or.inl ⟨by kernel_rfl, fun w' hw => by (go_simp)⟩) hS ?_
        refine wpAnyH_take (i := 1) (v := (.pointer (some ⟨p, 0, none⟩))) rfl (by kernel_rfl) (by kernel_rfl) (by kernel_rfl) (fun _ _ _ h => h) (Or.inl ⟨by kernel_rfl, fun w' hw => by (go_simp)⟩) hS ?_
        refine wpAnyH_take (i := 2) (v := (.pointer (some ⟨p, 0, none⟩))) rfl (by kernel_rfl) (by kernel_rfl) (by kernel_rfl) (fun _ _ _ h => h) (Or.inl ⟨by kernel_rfl, fun w' hw => by (go_simp)⟩) hS ?_
        refine wpAnyH_take (i := 3) (v := (.pointer (some ⟨b, 0, none⟩))) rfl (by kernel_rfl) (by kernel_rfl) (by kernel_rfl) (fun _ _ _ h => h) (Or.inl ⟨by kernel_rfl, fun w' hw => by (obtain ⟨z0, z1⟩ := hw; go_simp)⟩) hS ?_
        refine wpAnyH_take (i := 5) (v := (.pointer (some ⟨q, 0, none⟩))) rfl (by kernel_rfl) (by kernel_rfl) (by kernel_rfl) (fun _ _ _ h => h) (Or.inl ⟨by kernel_rfl, fun w' hw => by (go_simp)⟩) hS ?_
        refine wpAnyH_take (i := 6) (v := (.pointer (some ⟨q, 0, none⟩))) rfl (by kernel_rfl) (by kernel_rfl) (by kernel_rfl) (fun _ _ _ h => h) (Or.inl ⟨by kernel_rfl, fun w' hw => by (go_simp)⟩) hS ?_
        refine wpAnyH_take (i := 7) (v := (.pointer (some ⟨q, 0, none⟩))) rfl (by kernel_rfl) (by kernel_rfl) (by kernel_rfl) (fun _ _ _ h => h) (Or.inl ⟨by kernel_rfl, fun w' hw => by (go_simp)⟩) hS ?_
        refine wpAnyH_take (i := 8) (v := (.pointer (some ⟨d, 0, none⟩))) rfl (by kernel_rfl) (by kernel_rfl) (by kernel_rfl) (fun _ _ _ h => h) (Or.inl ⟨by kernel_rfl, fun w' hw => by (obtain ⟨z0, z1⟩ := hw; go_simp)⟩) hS ?_
        refine wpAnyH_goS (i := 4) (by kernel_rfl) rfl (by kernel_rfl) (fun K hK => ?_)
        go_wp2_with (go_at_call 15; refine (KIM.out).mono ?_; rintro e WD ⟨rfl, sD, tD⟩; have TD := hide tD; clear tD)
        refine hK.out _ _ sD ?_
        clear hK K
        refine wpAnyH_goS (i := 9) (by kernel_rfl) rfl (by kernel_rfl) (fun K hK => ?_)
        go_wp2_with (go_at_call 15; refine (TD.out).mono ?_; rintro e WE ⟨rfl, sE, tE⟩; have TE := hide tE; clear tE)
        refine hK.out _ _ sE ?_
        clear hK K
        refine wpAnyH_goS (i := 10) (by kernel_rfl) rfl (by kernel_rfl) (fun K hK => ?_)
        go_wp2_with (go_at_call 14; refine (TE.out).mono ?_; rintro e WF ⟨rfl, sF, tF⟩; have TF := hide tF; clear tF)
        refine hK.out _ _ sF ?_
        clear hK K
        refine wpAnyH_take (i := 11) (v := (.bool true)) rfl (by kernel_rfl) (by kernel_rfl) (by kernel_rfl) (fun _ _ _ h => h) (Or.inl ⟨by kernel_rfl, fun w' hw => by (go_simp)⟩) sF ?_
        refine wpAnyH_done (by kernel_rfl) ?_ _
        simp only [Act.put, List.getElem_toArray, List.getElem_cons_zero, List.getElem_cons_succ, List.setIfInBounds_toArray, List.set_cons_zero, List.set_cons_succ]
        have HF9 := hide (show Below w.heap.size w WF from HWV.out.trans ((HBW.out.drew.trans (TF.out.mono HBW.out.drew.size)).mono HWV.out.size))
        clear TF TE TD KIM S23
        go_wp2_with (fail)
        go_ret
        exact ⟨rfl, HF9.out⟩
end Go.Proofs.Ytaniglhkifbppaa
namespace Go.Proofs.Ytaniglhkifbppaa
open Go.ChangeShapes Go.WideShapes Go.ChangeAt Go.RowKit
set_option linter.unusedVariables false
set_option maxRecDepth 100000

theorem Try.cellsSt : Try.prog.cellsOf 48 = 7 := by kernel_rfl
theorem Try.cellsI : Try.prog.cellsOf 3 = 1 := by kernel_rfl
theorem Try.cellsU : Try.prog.cellsOf 44 = 1 := by kernel_rfl
theorem Try.cellsY : Try.prog.cellsOf 45 = 1 := by kernel_rfl
theorem Try.cellsN : Try.prog.cellsOf 23 = 1 := by kernel_rfl
theorem Try.cellsA : Try.prog.cellsOf 46 = 1 := by kernel_rfl
theorem slice_form {H : Type} {enc : TypeId × Value → H} {W : World} {fuel : Nat} {t e : TypeId} {c : Value} {x : DataW H × List MemPlace} (ht : Try.prog.underlying t = some (.slice e)) (h : DataW.trod enc Try.prog W 0 (fun _ => true) true fuel t [c] = some x) : ∃ a l k, c = .slice a l k := by
  rcases Go.Deep.open_slice ht h with ⟨e, _⟩ | ⟨a, l, c, _, _, _, _, e, _⟩
  · simp at e; exact ⟨_, _, _, e⟩
  · simp at e; exact ⟨_, _, _, e⟩
/-- The seven cells of a step. -/
theorem step_cells {H : Type} {enc : TypeId × Value → H} {W : World} (fuel : Nat) (cs : List Value) (x : DataW H × List MemPlace)
    (h : DataW.trod enc Try.prog W 0 (fun _ => true) true fuel 48 cs = some x) :
    ∃ s : StpR, cs = s.vals.toList ∧ s.Ok ∧ 8 ≤ Rows.uptoBulk x.1 := by
  obtain ⟨xs, n, _, hx, hl, hlen, hf⟩ := DataW.trod_struct Try.underlying48 h
  rw [Try.cellsSt] at hl
  match cs, hl with
  | [c0, c1, c2, c3, c4, c5, c6], _ =>
    match xs, hlen with
    | [y0, y1, y2, y3, y4, y5, y6], _ =>
      have h0 := hf 0 _ rfl
      have h1 := hf 1 _ rfl
      have h2 := hf 2 _ rfl
      have h3 := hf 3 _ rfl
      have h4 := hf 4 _ rfl
      have h5 := hf 5 _ rfl
      have h6 := hf 6 _ rfl
      simp [Try.cellsI, Try.cellsU, Try.cellsY, Try.cellsN, Try.cellsA] at h0 h1 h2 h3 h4 h5 h6
      obtain ⟨da, dl, dc, rfl⟩ := slice_form Try.underlying45 h4
      obtain ⟨ka, kl, kc, rfl⟩ := slice_form Try.underlying23 h5
      obtain ⟨aa, al, ac, rfl⟩ := slice_form Try.underlying46 h6
      obtain ⟨z0, e0, _, w0⟩ := DataW.trod_int Try.underlying3 h0
      obtain ⟨z1, e1, _, w1⟩ := DataW.trod_int Try.underlying3 h1
      obtain ⟨z2, e2, _, w2⟩ := DataW.trod_int Try.underlying3 h2
      obtain ⟨z3, e3, _, w3⟩ := DataW.trod_int Try.underlying44 h3
      simp at e0 e1 e2 e3
      subst e0 e1 e2 e3
      have b1 := bounds_i64 w1
      have b3 := bounds_u64 w3
      obtain ⟨v, rfl⟩ : ∃ v : Nat, z3 = (v : Int) := ⟨z3.toNat, by omega⟩
      refine ⟨⟨z0, z1, z2, v, da, dl, dc, ka, kl, kc, aa, al, ac⟩, rfl, ⟨b1.1, b1.2, by show v < _; omega⟩, ?_⟩
      have p0 := bulk_pos y0.1
      have p1 := bulk_pos y1.1
      have p2 := bulk_pos y2.1
      have p3 := bulk_pos y3.1
      have p4 := bulk_pos y4.1
      have p5 := bulk_pos y5.1
      have p6 := bulk_pos y6.1
      subst hx
      simp only [List.map_cons, List.map_nil, Rows.uptoBulk, Rows.uptoBulkAll]
      omega
theorem sum_const {α : Type} (l : List α) (k : Nat) : (l.map (fun _ => k)).sum = k * l.length := by
  induction l with
  | nil => simp
  | cons a r ih => simp only [List.map_cons, List.sum_cons, List.length_cons, ih]; rw [Nat.mul_add]; omega
theorem open_script {H : Type} {enc : TypeId × Value → H} {W : World} {v : Value} {d : DataW H} {p : List MemPlace} (h : DataW.Trod enc Try.prog W 0 (fun _ => true) true 22 v d p) (hv : ∃ a l c, v = .slice a l c) :
    ∃ (a : Option Addr) (ns c : Nat) (xs : List StpR), v = .slice a ns c ∧ RowC 7 (fun s : StpR => s.vals.toList) W a xs ∧ (∀ s ∈ xs, s.Ok) ∧ xs.length = ns ∧ 8 * ns ≤ Rows.uptoBulk d := by
  obtain ⟨a, l, c, rfl⟩ := hv
  obtain ⟨fuel, hf⟩ := h
  have hf : DataW.trod enc Try.prog W 0 (fun _ => true) true fuel 22 [.slice a l c] = some (d, p) := by simpa [Value.cells] using hf
  obtain ⟨xs, rfl, h1, h2, h3, _⟩ := open_row (fun s : StpR => s.vals.toList) (fun s _ => s.Ok) (fun _ => 8) Try.underlying22 Try.cellsSt (by omega) (fun s => rfl) (fun fuel cs x h => by obtain ⟨s, q1, q2, q3⟩ := step_cells fuel cs x h; exact ⟨s, q1, q2, q3⟩) hf
  rw [sum_const] at h3
  exact ⟨a, xs.length, c, xs, rfl, h1, fun s hs => by obtain ⟨d, hd⟩ := h2 s hs; exact hd, rfl, by have h3 : 8 * xs.length + 1 ≤ Rows.uptoBulk d := h3; omega⟩
theorem open_keep {H : Type} {enc : TypeId × Value → H} {W : World} {v : Value} {d : DataW H} {p : List MemPlace} (h : DataW.Trod enc Try.prog W 0 (fun _ => true) true 23 v d p) (hv : ∃ a l c, v = .slice a l c) :
    ∃ (a : Option Addr) (nk c : Nat) (zs : List Int), v = .slice a nk c ∧ IntsP W a zs ∧ zs.length = nk ∧ nk ≤ c ∧ nk ≤ Rows.uptoBulk d := by
  obtain ⟨a, l, c, rfl⟩ := hv
  obtain ⟨fuel, hf⟩ := h
  have hf : DataW.trod enc Try.prog W 0 (fun _ => true) true fuel 23 [.slice a l c] = some (d, p) := by simpa [Value.cells] using hf
  rcases open_ints Try.underlying23 Try.underlying3 (by kernel_rfl) hf with ⟨hcs, hx0⟩ | ⟨ad, l', cap, zs, hcs, _, hl, hm, hzl, hx, hcell, hwz⟩
  · simp at hcs
    obtain ⟨rfl, rfl, rfl⟩ := hcs
    exact ⟨none, 0, 0, [], rfl, ⟨by simp, .inl rfl⟩, rfl, Nat.le_refl _, Nat.zero_le _⟩
  · simp at hcs
    obtain ⟨rfl, rfl, rfl⟩ := hcs
    simp only [if_true] at hzl
    have htl : (zs.take l).length = l := by rw [List.length_take]; omega
    refine ⟨some ad, l, c, zs.take l, rfl, ⟨fun z hz => bounds_i64 (hwz z (List.mem_of_mem_take hz)), ?_⟩, htl, hl, ?_⟩
    · by_cases h0 : l = 0
      · subst h0; exact .inl (by simp)
      · obtain ⟨b, off, spot⟩ := ad
        have hc := hcell 0 (by omega)
        have hspot : spot = none := by simpa [Addr.add] using World.cell?_spot hc
        subst hspot
        refine .inr ⟨b, off, rfl, World.block_lt_of_cell? _ _ hc, fun i y hy => ?_⟩
        have hi : i < l := by
          have := (List.getElem?_eq_some_iff.1 hy).1
          omega
        rw [List.getElem?_take, if_pos hi] at hy
        have h1 := hcell i (by omega)
        have e : (⟨b, off, none⟩ : Addr).add i = ⟨b, off + i, none⟩ := by simp [Addr.add]
        rw [e] at h1
        rw [h1, List.getD_eq_getElem?_getD, hy]
        rfl
    · simp only [Prod.mk.injEq] at hx
      rw [hx.1]
      have h5 := bulk_len (H := H) (lits .i64 (zs.take l))
      have h6 : (lits (H := H) .i64 (zs.take l)).length = l := by simp [lits]; omega
      simp only [Rows.uptoBulk]
      omega
end Go.Proofs.Ytaniglhkifbppaa
namespace Go.Proofs.Ytaniglhkifbppaa
open Go.ChangeShapes Go.WideShapes Go.ChangeAt Go.RowKit
set_option linter.unusedVariables false
theorem trod_len {H : Type} {enc : TypeId × Value → H} {W : World} {t e : TypeId} {a : Option Addr} {l c : Nat} {d : DataW H} {p : List MemPlace} (ht : Try.prog.underlying t = some (.slice e)) (h : DataW.Trod enc Try.prog W 0 (fun _ => true) true t (.slice a l c) d p)
    (hz : ∀ el sp, d = .slice el sp → (el.length + sp.length) * Try.prog.bytesOf e ≤ reachBytes) : l * Try.prog.bytesOf e ≤ reachBytes := by
  obtain ⟨fuel, hf⟩ := h
  have hf : DataW.trod enc Try.prog W 0 (fun _ => true) true fuel t [.slice a l c] = some (d, p) := by simpa [Value.cells] using hf
  rcases Go.Deep.open_slice ht hf with ⟨hcs, hx0⟩ | ⟨ad, l', c', m, n, D, Pl, hcs, _, hl, hm, hmm, hx, hele⟩
  · simp at hcs
    obtain ⟨rfl, rfl, rfl⟩ := hcs
    simp
  · simp at hcs
    obtain ⟨rfl, rfl, rfl⟩ := hcs
    simp only [Prod.mk.injEq] at hx
    have h5 := hz _ _ hx.1
    simp only [List.length_map, List.length_range] at h5
    exact Nat.le_trans (Nat.mul_le_mul_right _ (Nat.le_add_right _ _)) h5
theorem len_steps {l : Nat} (h : l * Try.prog.bytesOf 48 ≤ reachBytes) : l ≤ 1353300000000 := by
  have e : Try.prog.bytesOf 48 = 104 := by kernel_rfl
  have e2 : reachBytes = 140737488351232 := by decide
  rw [e, e2] at h; omega
theorem len_nums {l : Nat} (h : l * Try.prog.bytesOf 3 ≤ reachBytes) : l ≤ 17592186043904 := by
  have e : Try.prog.bytesOf 3 = 8 := by kernel_rfl
  have e2 : reachBytes = 140737488351232 := by decide
  rw [e, e2] at h; omega
end Go.Proofs.Ytaniglhkifbppaa
namespace Go.Proofs.Ytaniglhkifbppaa
open Go.ChangeShapes Go.WideShapes Go.ChangeAt Go.RowKit
set_option linter.unusedVariables false
set_option maxRecDepth 100000

theorem Try.cellsAr : Try.prog.cellsOf 25 = 4 := by kernel_rfl
theorem Try.cellsSc : Try.prog.cellsOf 22 = 1 := by kernel_rfl
/-- What an armed script is. -/
def ArmedZ (W : World) (cs : List Value) : Prop :=
    ∃ (li x2 : Int) (a ka : Option Addr) (c ns kc nk : Nat) (xs : List StpR) (zs : List Int), cs = [.int .i64 li, .slice a ns c, .int .i64 x2, .slice ka nk kc] ∧
      (-9223372036854775808 ≤ li ∧ li ≤ 9223372036854775807) ∧ (-9223372036854775808 ≤ x2 ∧ x2 ≤ 9223372036854775807) ∧
      RowC 7 (fun s : StpR => s.vals.toList) W a xs ∧ (∀ s ∈ xs, s.Ok) ∧ xs.length = ns ∧ IntsP W ka zs ∧ zs.length = nk ∧ ns ≤ 1353300000000 ∧ nk ≤ 17592186043904
theorem armed_cellsZ {H : Type} {enc : TypeId × Value → H} {W : World} {fuel : Nat} {cs : List Value} {x : DataW H × List MemPlace}
    (h : DataW.trod enc Try.prog W 0 (fun _ => true) true fuel 25 cs = some x)
    (hz0 : ∀ parts, x.1 = .agg parts → (DataW.weightsEach Try.prog [3, 22, 3, 23] parts).all (· ≤ reachBytes) = true) : ArmedZ W cs := by
  obtain ⟨us, n, _, hx, hl, hlen, hf⟩ := DataW.trod_struct Try.underlying25 h
  rw [Try.cellsAr] at hl
  match cs, hl with
  | [k0, k1, k2, k3], _ =>
    match us, hlen with
    | [y0, y1, y2, y3], _ =>
      have h0 := hf 0 _ rfl
      have h1 := hf 1 _ rfl
      have h2 := hf 2 _ rfl
      have h3 := hf 3 _ rfl
      simp [Try.cellsI, Try.cellsN, Try.cellsSc] at h0 h1 h2 h3
      obtain ⟨a1, l1, c1, rfl⟩ := slice_form Try.underlying22 h1
      obtain ⟨a3, l3, c3, rfl⟩ := slice_form Try.underlying23 h3
      obtain ⟨sa, ns, sc, xs, e1, row, sok, sln, sbk⟩ := open_script (d := y1.1) (p := y1.2) (v := .slice a1 l1 c1) ⟨n, h1⟩ ⟨_, _, _, rfl⟩
      obtain ⟨ka, nk, kc, zs, e3, hz, zl, zc, zb⟩ := open_keep (d := y3.1) (p := y3.2) (v := .slice a3 l3 c3) ⟨n, h3⟩ ⟨_, _, _, rfl⟩
      simp only [Value.slice.injEq] at e1 e3
      obtain ⟨rfl, rfl, rfl⟩ := e1
      obtain ⟨rfl, rfl, rfl⟩ := e3
      obtain ⟨z0, e0, _, w0⟩ := DataW.trod_int Try.underlying3 h0
      obtain ⟨z2, e2, _, w2⟩ := DataW.trod_int Try.underlying3 h2
      simp at e0 e2
      subst e0 e2
      have hz1 := hz0 [y0.1, y1.1, y2.1, y3.1] (by subst hx; rfl)
      have m1 := len_steps (trod_len (enc := enc) (W := W) (a := a1) (l := l1) (c := c1) (d := y1.1) (p := y1.2) Try.underlying22 ⟨n, h1⟩ (fun el sp hd => sized_slice hz1 (j := 1) (t := 22) (e := 48) rfl (by rw [← hd]; rfl) Try.underlying22))
      have m3 := len_nums (trod_len (enc := enc) (W := W) (a := a3) (l := l3) (c := c3) (d := y3.1) (p := y3.2) Try.underlying23 ⟨n, h3⟩ (fun el sp hd => sized_slice hz1 (j := 3) (t := 23) (e := 3) rfl (by rw [← hd]; rfl) Try.underlying23))
      exact ⟨z0, z2, a1, a3, c1, l1, c3, l3, xs, zs, rfl, bounds_i64 w0, bounds_i64 w2, row, sok, sln, hz, zl, m1, m3⟩
theorem armed_weights {H : Type} {ts : List TypeId} {ds parts : List (DataW H)} (h : (DataW.weightsEach Try.prog ts ds).all (· ≤ reachBytes) = true) {j : Nat} (ht : ts[j]? = some 25) (hd : ds[j]? = some (.agg parts)) : (DataW.weightsEach Try.prog [3, 22, 3, 23] parts).all (· ≤ reachBytes) = true := by
  rw [List.all_eq_true] at h ⊢
  intro n hn
  exact h n (DataW.weights_mem_each ht hd n (by simp only [DataW.weights, Try.underlying25]; exact hn))
theorem open_armedZ {H : Type} {enc : TypeId × Value → H} {W : World} {r : Reach} {b0 : Nat} {v : Value} {d : DataW H} {p : List MemPlace}
    (hv : Value.okWide Try.prog W r b0 25 v) (h : DataW.Trod enc Try.prog W 0 (fun _ => true) true 25 v d p)
    (hz : ∀ parts, d = .agg parts → (DataW.weightsEach Try.prog [3, 22, 3, 23] parts).all (· ≤ reachBytes) = true) : ∃ cs : List Value, v = .agg cs.toArray ∧ ArmedZ W cs := by
  obtain ⟨cs, rfl, hsz⟩ := okWide_struct Try.underlying25 hv
  obtain ⟨fuel, hf⟩ := h
  have h1 := armed_cellsZ hf hz
  refine ⟨cs.toList, by rw [Array.toArray_toList], ?_⟩
  simpa [Value.cells] using h1
end Go.Proofs.Ytaniglhkifbppaa
namespace Go.Proofs.Ytaniglhkifbppaa.pmemArms
open Go.ChangeShapes Go.WideShapes Go.ChangeAt Go.RowKit Go.Proofs.Ytaniglhkifbppaa
set_option linter.unusedVariables false
theorem armed_walk (W : World) (cs : List Value) (h : ArmedZ W cs) : Calls Try.prog 3 #[.agg cs.toArray] W fun e w' => e = .returned (.bool true) ∧ Below W.heap.size W w' := by
  obtain ⟨li, x2, a, ka, c, ns, kc, nk, xs, zs, rfl, q1, q2, q3, q4, q5, q6, q7, q8, q9⟩ := h
  exact pmemArms_walk W li x2 a ka c ns kc nk xs zs q1 q2 ⟨q3, q4, q5, q8⟩ q6 q7 q9

set_option maxRecDepth 100000 in
theorem lifted (os : Os) (started : os.Started) (H : Type) (enc : TypeId × Value → H) :
    ReturnsInHanded {} Try.checked os 3 .any (Rows.pmemArmsSpec.pre6 enc Try.prog Try.f3 Rows.pmemArmsRow.domain false) (Rows.pmemArmsSpec.post enc Try.prog Try.f3 false true false false) := by
  refine returnsInHanded_of_change_sized (C := Try.checked) own started (by kernel_rfl) Try.func3
    (ChangeSpec.witness6 (enc := enc) (C := Try.checked) false ⟨#[], #[.agg #[.int .i64 0, .slice none 0 0, .int .i64 0, .slice none 0 0]], []⟩ 8 (by kernel_rfl) (by kernel_rfl) (by kernel_rfl) (by kernel_rfl)) ?_
  intro W base args ds gs before hval0 hW hcnd hsz0 _
  have hval : ∀ (j : Nat) t v, Try.f3.params[j]? = some t → args[j]? = some v → Value.okWide Try.prog W .any base t v := hval0
  have hsz : (DataW.weightsEach Try.prog (Try.f3.params.toList ++ Rows.pmemArmsSpec.plain.varTypes Try.prog) (ds ++ gs)).all (· ≤ reachBytes) = true := hsz0
  have hW' := hW
  obtain ⟨p, q, hA0, hV, rfl, hfz, hnd⟩ := hW
  have hA : DataW.TrodAll enc Try.prog W 0 (fun _ => true) true Try.f3.params.toList args.toList ds p := hA0
  rw [Try.params3] at hA hval hsz
  obtain ⟨v0, vs0, d0, ds0, p0, q0, hargs, rfl, rfl, h0, r0⟩ := trodAll_cons hA
  obtain ⟨rfl, rfl, rfl⟩ := trodAll_nil r0
  obtain rfl : args = #[v0] := by cases args; simp_all
  obtain ⟨rfl, rfl⟩ := trodVars_none hV
  have k0 := h0
  have lt0 : ∀ x ∈ p0, x.block < W.heap.size := by obtain ⟨m, hm⟩ := k0; exact DataW.trod_lt m _ _ _ hm
  obtain ⟨cs0, rfl, ro0⟩ := open_armedZ (hval 0 25 v0 rfl rfl) h0 (fun parts hd => by subst hd; exact armed_weights hsz (j := 0) rfl rfl)
  clear hval0
  clear hA0
  refine (armed_walk W cs0 ro0).mono fun e W' ⟨he, bel⟩ => ?_
  subst he
  exact ⟨_, rfl, _, _, _, [], _, [], hW', trodAll_mk1 (shut_bool Try.underlying4 _), (trodAll_cons_mk (Below.trod laidOut (by kernel_rfl) (of_decide_eq_true (by kernel_rfl)) k0 bel lt0) trodAll_mk0), rfl, bel.frame _, fun h => by cases h⟩

theorem over : Rows.pmemArmsRow.holds Try.pinned (OpenSpec.ofChange Rows.pmemArmsSpec) :=
  OpenClaim.holds_of_wide 3 Try.f3 rfl rfl rfl rfl rfl rfl rfl ⟨rfl, rfl, rfl, rfl, rfl⟩ rfl rfl rfl rfl rfl (by kernel_rfl) Try.func3 (by kernel_rfl)
    (of_decide_eq_true (by kernel_rfl)) (by unfold Func.isWrapper; first | (rw [if_pos (by decide +kernel)]; kernel_rfl) | (rw [if_neg (by decide +kernel)]; exact ⟨rfl, rfl⟩))
    (fun os started H enc _ => lifted os started H enc)

end Go.Proofs.Ytaniglhkifbppaa.pmemArms

namespace Go.Proofs.Ytaniglhkifbppaa
/-- PmemArms, as it is stated. -/
theorem pmemArms_holds : Rows.PmemArmsSaid := pmemArms.over
#print axioms pmemArms_holds
end Go.Proofs.Ytaniglhkifbppaa
