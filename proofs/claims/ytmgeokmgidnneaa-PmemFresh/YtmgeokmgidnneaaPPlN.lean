/- The statements' play of layer 8: a step that fences. -/
import Derived.Test.YtmgeokmgidnneaaPPlF
import Derived.Test.YtmgeokmgidnneaaPHeld
namespace Go.Proofs.Ytmgeokmgidnneaa
open Go.RowKit Go.Shelf
set_option linter.unusedVariables false

/-- The book while a Fence is entered. -/
def fB (B : Bk) (k : Nat) : Bk := { B with last := fenLast B k, sure := fenSure B k }
def gB (B : Bk) (j : Nat) : Bk := { fB B B.seen.length with marks := List.replicate j 0 ++ B.marks.drop j }
theorem gB_end (B : Bk) : gB B B.marks.length = bfence B := by
  unfold gB bfence fB
  rw [List.drop_length, List.append_nil]
theorem foot_fB {K : Kl} {B B' : Bk} (hh : B'.held = B.held) {g : Nat} (h : FootR (rowsOf K B') g) : FootR (rowsOf K B) g := by
  obtain ⟨k, r, hk, hb⟩ := h
  cases k with
  | seen => cases hk; exact ⟨.seen, _, rfl, hb⟩
  | held => cases hk; exact ⟨.held, _, rfl, hb⟩
  | last => cases hk; exact ⟨.last, _, rfl, hb⟩
  | sure => cases hk; exact ⟨.sure, _, rfl, hb⟩
  | marks => cases hk; exact ⟨.marks, _, rfl, hb⟩
  | inner i =>
    have hk : innerOf K B' i = some r := hk
    unfold innerOf at hk
    rw [hh] at hk
    exact ⟨.inner i, r, hk, hb⟩
theorem PlL.drew {W : World} {p b : Nat} {K : Kl} {B : Bk} (h : PlL W p b K B) : PlL W.drew p b K B := h.keep fun _ _ => rfl
theorem Gr.drewR {X : Nat → Prop} {a b : World} (h : Gr X a b) : Gr X a b.drew := ⟨h.1, h.2.1, h.2.2.1, h.2.2.2.1, h.2.2.2.2⟩
/-- A word's number, as it lasts. -/
theorem PlL.set_last {W : World} {p b lg lc N j x : Nat} {K : Kl} {B : Bk} (h : PlL W p b K B) (hv : K.lv = .slice (some ⟨lg, 0, none⟩) N lc) (hn : B.last.length = N) : PlL (W.setCell ⟨lg, j, none⟩ (U64 x)) p b K { B with last := B.last.set j x } := by
  refine h.set (k := .last) (r := ⟨47, K.lv, B.last.map U64⟩) rfl hv (by simpa using hn) (fun q => ?_) rfl
  cases q with
  | last => show some _ = some _; rw [List.map_set]
  | _ => rfl
theorem PlL.set_sure {W : World} {p b lg lc N j : Nat} {x : Bool} {K : Kl} {B : Bk} (h : PlL W p b K B) (hv : K.uv = .slice (some ⟨lg, 0, none⟩) N lc) (hn : B.sure.length = N) : PlL (W.setCell ⟨lg, j, none⟩ (.bool x)) p b K { B with sure := B.sure.set j x } := by
  refine h.set (k := .sure) (r := ⟨4, K.uv, B.sure.map Value.bool⟩) rfl hv (by simpa using hn) (fun q => ?_) rfl
  cases q with
  | sure => show some _ = some _; rw [List.map_set]
  | _ => rfl
theorem PlL.set_mark {W : World} {p b lg lc N j x : Nat} {K : Kl} {B : Bk} (h : PlL W p b K B) (hv : K.mv = .slice (some ⟨lg, 0, none⟩) N lc) (hn : B.marks.length = N) : PlL (W.setCell ⟨lg, j, none⟩ (MI x)) p b K { B with marks := B.marks.set j x } := by
  refine h.set (k := .marks) (r := ⟨3, K.mv, B.marks.map MI⟩) rfl hv (by simpa using hn) (fun q => ?_) rfl
  cases q with
  | marks => show some _ = some _; rw [List.map_set]
  | _ => rfl
theorem PlL.set_seen {W : World} {p b lg lc N j x : Nat} {K : Kl} {B : Bk} (h : PlL W p b K B) (hv : K.sv = .slice (some ⟨lg, 0, none⟩) N lc) (hn : B.seen.length = N) : PlL (W.setCell ⟨lg, j, none⟩ (U64 x)) p b K { B with seen := B.seen.set j x } := by
  refine h.set (k := .seen) (r := ⟨47, K.sv, B.seen.map U64⟩) rfl hv (by simpa using hn) (fun q => ?_) rfl
  cases q with
  | seen => show some _ = some _; rw [List.map_set]
  | _ => rfl
/-- Where rows lie. -/
structure Lies (K : Kl) (p N m sg sc lg lc ug uc mg mc : Nat) (X : Nat → Prop) : Prop where
  s : K.sv = .slice (some ⟨sg, 0, none⟩) N sc
  l : K.lv = .slice (some ⟨lg, 0, none⟩) N lc
  u : K.uv = .slice (some ⟨ug, 0, none⟩) N uc
  m : K.mv = .slice (some ⟨mg, 0, none⟩) m mc
  xs : X sg
  xl : X lg
  xu : X ug
  xm : X mg
theorem PlL.lies {W : World} {p b N m : Nat} {K : Kl} {B : Bk} (h : PlL W p b K B) (hs : B.seen.length = N) (hl : B.last.length = N) (hu : B.sure.length = N) (hm : B.marks.length = m) (hN : 0 < N) (hm0 : 0 < m) : ∃ sg sc lg lc ug uc mg mc, Lies K p N m sg sc lg lc ug uc mg mc (FootR (rowsOf K B)) := by
  obtain ⟨sg, sc, _, e1, _, _, _, f1⟩ := h.own.at (k := .seen) rfl (by simp; omega)
  obtain ⟨lg, lc, _, e2, _, _, _, f2⟩ := h.own.at (k := .last) rfl (by simp; omega)
  obtain ⟨ug, uc, _, e3, _, _, _, f3⟩ := h.own.at (k := .sure) rfl (by simp; omega)
  obtain ⟨mg, mc, _, e4, _, _, _, f4⟩ := h.own.at (k := .marks) rfl (by simp; omega)
  simp only [List.length_map, hs, hl, hu, hm] at e1 e2 e3 e4
  exact ⟨sg, sc, lg, lc, ug, uc, mg, mc, e1, e2, e3, e4, f1, f2, f3, f4⟩
section
variable {W : World} {p b N m sg sc lg lc ug uc mg mc : Nat} {K : Kl} {B : Bk} {X : Nat → Prop}
theorem PlL.seenC (h : PlL W p b K B) (e : K.sv = .slice (some ⟨sg, 0, none⟩) N sc) {k x : Nat} (hx : B.seen[k]? = some x) : W.cell? ⟨sg, k, none⟩ = some (.int .u64 (x : Int)) ∧ W.frozen? ⟨sg, k, none⟩ = false := by
  obtain ⟨g, cap, e1, c, f, _⟩ := h.own.cellAt (k := .seen) rfl (j := k) (x := U64 x) (by simp [hx])
  have e2 := e.symm.trans e1
  simp only [Value.slice.injEq, Option.some.injEq, Addr.mk.injEq, and_true] at e2
  obtain ⟨rfl, _⟩ := e2
  exact ⟨c, f k⟩
theorem PlL.lastC (h : PlL W p b K B) (e : K.lv = .slice (some ⟨sg, 0, none⟩) N sc) {k x : Nat} (hx : B.last[k]? = some x) : W.cell? ⟨sg, k, none⟩ = some (.int .u64 (x : Int)) ∧ W.frozen? ⟨sg, k, none⟩ = false := by
  obtain ⟨g, cap, e1, c, f, _⟩ := h.own.cellAt (k := .last) rfl (j := k) (x := U64 x) (by simp [hx])
  have e2 := e.symm.trans e1
  simp only [Value.slice.injEq, Option.some.injEq, Addr.mk.injEq, and_true] at e2
  obtain ⟨rfl, _⟩ := e2
  exact ⟨c, f k⟩
theorem PlL.sureC (h : PlL W p b K B) (e : K.uv = .slice (some ⟨sg, 0, none⟩) N sc) {k : Nat} {x : Bool} (hx : B.sure[k]? = some x) : W.cell? ⟨sg, k, none⟩ = some (.bool x) ∧ W.frozen? ⟨sg, k, none⟩ = false := by
  obtain ⟨g, cap, e1, c, f, _⟩ := h.own.cellAt (k := .sure) rfl (j := k) (x := .bool x) (by simp [hx])
  have e2 := e.symm.trans e1
  simp only [Value.slice.injEq, Option.some.injEq, Addr.mk.injEq, and_true] at e2
  obtain ⟨rfl, _⟩ := e2
  exact ⟨c, f k⟩
theorem PlL.markC (h : PlL W p b K B) (e : K.mv = .slice (some ⟨sg, 0, none⟩) N sc) {k x : Nat} (hx : B.marks[k]? = some x) : W.cell? ⟨sg, k, none⟩ = some (.int .i64 (x : Int)) ∧ W.frozen? ⟨sg, k, none⟩ = false := by
  obtain ⟨g, cap, e1, c, f, _⟩ := h.own.cellAt (k := .marks) rfl (j := k) (x := MI x) (by simp [hx])
  have e2 := e.symm.trans e1
  simp only [Value.slice.injEq, Option.some.injEq, Addr.mk.injEq, and_true] at e2
  obtain ⟨rfl, _⟩ := e2
  exact ⟨c, f k⟩
theorem Lies.cells (hl : Lies K p N m sg sc lg lc ug uc mg mc X) (h : PlL W p b K B) : W.cell? ⟨p, 0, none⟩ = some (.pointer (some ⟨b, 0, none⟩)) ∧ W.cell? ⟨p, 1, none⟩ = some (.slice (some ⟨sg, 0, none⟩) N sc) ∧ W.cell? ⟨p, 3, none⟩ = some (.slice (some ⟨lg, 0, none⟩) N lc) ∧ W.cell? ⟨p, 4, none⟩ = some (.slice (some ⟨ug, 0, none⟩) N uc) ∧ W.cell? ⟨p, 5, none⟩ = some (.slice (some ⟨mg, 0, none⟩) m mc) := by
  rw [← hl.s, ← hl.l, ← hl.u, ← hl.m]
  exact ⟨h.c 0, h.c 1, h.c 3, h.c 4, h.c 5⟩
end
set_option maxRecDepth 100000 in
set_option maxHeartbeats 2000000 in
theorem play_fence (p b N m w : Nat) (a n : Int) (v : Nat) (da : Option Addr) (dl dc : Nat) (ka : Option Addr) (kl kc : Nat) (aa : Option Addr) (al ac : Nat) (W : World) (K : Kl) (B : Bk) (Post : Int → World → Prop) (kw : ∀ X, Calls Try.prog 6 #[.int .i64 a, .int .i64 (N : Int)] X fun e w' => e = .returned (.int .i64 (w : Int)) ∧ w' = X) (hwN : w < N) (hNm : N = 8 * m) (hm4 : m ≤ 4) (h : PlL W p b K B) (hs : B.seen.length = N) (hl : B.last.length = N) (hu : B.sure.length = N) (hm : B.marks.length = m)
    (ks : ∀ X, PlL X p b K (bfence B) → Gr (FootR (rowsOf K B)) (W.alloc (.cells #[.int .i64 5, .int .i64 a, .int .i64 n, .int .u64 (v : Int), .slice da dl dc, .slice ka kl kc, .slice aa al ac] 59)) X → Calls Try.prog 19 #[.pointer (some ⟨b, 0, none⟩)] X fun e X' => ∃ c, e = .returned (.int .i64 c) ∧ Post c X') :
    Calls Try.prog 23 #[.pointer (some ⟨p, 0, none⟩), .agg #[.int .i64 5, .int .i64 a, .int .i64 n, .int .u64 (v : Int), .slice da dl dc, .slice ka kl kc, .slice aa al ac]] W fun e W' => ∃ c, e = .returned (.bool (decide (c = 0))) ∧ Post c W' := by
  obtain ⟨sg, sc, lg, lc, ug, uc, mg, mc, hlies⟩ := h.lies hs hl hu hm (by omega) (by omega)
  have hB1 : Below W.heap.size W (W.alloc (.cells #[.int .i64 5, .int .i64 a, .int .i64 n, .int .u64 (v : Int), .slice da dl dc, .slice ka kl kc, .slice aa al ac] 59)) := (Below.refl _ _).alloc (Nat.le_refl _) _
  have h1 := h.below hB1
  have hbx := heap_alloc_new W (.cells #[.int .i64 5, .int .i64 a, .int .i64 n, .int .u64 (v : Int), .slice da dl dc, .slice ka kl kc, .slice aa al ac] 59)
  have d0 := cell8 hbx 0
  have d1 := cell8 hbx 1
  simp only [List.getElem?_toArray, List.getElem?_cons_zero, List.getElem?_cons_succ] at d0 d1
  obtain ⟨c0, c1, c3, c4, c5⟩ := hlies.cells h1
  have KW := hide kw
  have KS := hide ks
  have H1 := hide h1
  have HLI := hide hlies
  have htd := tdiv8 w
  have wI : (w : Int) < (N : Int) := by omega
  have NI : (N : Int) ≤ 32 := by omega
  have lI : ((w / 8 : Nat) : Int) ≤ 4 := by omega
  have HNm := hide hNm
  have HS := hide hs
  have HL := hide hl
  have HU := hide hu
  have HM := hide hm
  generalize w / 8 = l at *
  clear kw ks h h1 hlies hB1 hbx hs hl hu hm c0 c3 c4 c5 hNm
  go_enter Try.func23, Try.ntmps23
  go_upto_region 1 with (fail)
  generalize hW1 : (W.alloc (.cells #[.int .i64 5, .int .i64 a, .int .i64 n, .int .u64 (v : Int), .slice da dl dc, .slice ka kl kc, .slice aa al ac] 59)) = W1 at *
  clear hW1
  go_wp2_with (first
    | (go_at_call 6; refine (KW.out _).mono ?_; rintro e w' ⟨rfl, hw⟩; obtain rfl := hw.symm))
  try go_frame
  go_loopw [8] (fun iv wr => ∃ k : Nat, iv = .int .i64 (k : Int) ∧ k ≤ N ∧ PlL wr p b K (fB B k) ∧ Gr (FootR (rowsOf K B)) W1 wr) (fun iv _ => (N - (intOf iv).toNat))
  case atStart => exact ⟨0, rfl, Nat.zero_le _, H1.out, Gr.refl _ _⟩
  case round =>
    clear d0 d1 c1
    obtain ⟨k, rfl, hk, hpl, hgr⟩ := hrel
    by_cases hlt : k < N
    · have kI : (k : Int) < (N : Int) := by omega
      obtain ⟨c0, c1, c3, c4, c5⟩ := HLI.out.cells hpl
      obtain ⟨mk, hmk⟩ : ∃ x, B.marks[k / 8]? = some x := ⟨_, List.getElem?_eq_getElem (by rw [HM.out]; have := HNm.out; omega)⟩
      obtain ⟨x, hx⟩ : ∃ x, B.seen[k]? = some x := ⟨_, List.getElem?_eq_getElem (by rw [HS.out]; exact hlt)⟩
      obtain ⟨x2, hx2⟩ : ∃ x, (fenLast B k)[k]? = some x := ⟨_, List.getElem?_eq_getElem (by rw [fenLast_len, HL.out]; exact hlt)⟩
      obtain ⟨x3, hx3⟩ : ∃ x, (fenSure B k)[k]? = some x := ⟨_, List.getElem?_eq_getElem (by rw [fenSure_len, HU.out]; exact hlt)⟩
      have cm := (hpl.markC (B := fB B k) HLI.out.m hmk).1
      have htd2 := tdiv8 k
      have ixm := fun X => index_ints mg 0 (k / 8) m mc (by have := HNm.out; omega) X
      simp only [Nat.zero_add] at ixm
      have lI2 : ((k / 8 : Nat) : Int) ≤ 4 := by omega
      by_cases hone : mk = 1
      · subst hone
        have hps := hpl.set_last (j := k) (x := x) HLI.out.l (by show (fenLast B k).length = N; rw [fenLast_len]; exact HL.out)
        have hpt := hps.set_sure (j := k) (x := true) HLI.out.u (by show (fenSure B k).length = N; rw [fenSure_len]; exact HU.out)
        have hfin : PlL ((wr.setCell ⟨lg, k, none⟩ (U64 x)).setCell ⟨ug, k, none⟩ (.bool true)) p b K (fB B (k + 1)) := by
          have e1 : fenLast B (k + 1) = (fenLast B k).set k x := by
            show (if B.marks[k / 8]? = some 1 then _ else _) = _
            rw [if_pos hmk, List.getD_eq_getElem?_getD, hx]
            rfl
          have e2 : fenSure B (k + 1) = (fenSure B k).set k true := by
            show (if B.marks[k / 8]? = some 1 then _ else _) = _
            rw [if_pos hmk]
          unfold fB
          rw [e1, e2]
          exact hpt
        have hgf : Gr (FootR (rowsOf K B)) W1 ((wr.setCell ⟨lg, k, none⟩ (U64 x)).setCell ⟨ug, k, none⟩ (.bool true)) := (hgr.trans (Gr.set _ lg k _ (X := FootR (rowsOf K B)) HLI.out.xl) (fun i h => .inl h)).trans (Gr.set _ ug k _ (X := FootR (rowsOf K B)) HLI.out.xu) (fun i h => .inl h)
        have s21 : wr.drew.cell? ⟨p, 3, none⟩ = some (.slice (some ⟨lg, 0, none⟩) N lc) ∧ wr.drew.cell? ⟨p, 1, none⟩ = some (.slice (some ⟨sg, 0, none⟩) N sc) ∧ wr.drew.cell? ⟨sg, k, none⟩ = some (.int .u64 (x : Int)) := ⟨c3, c1, (hpl.seenC HLI.out.s hx).1⟩
        obtain ⟨cl, fl⟩ := hpl.lastC (B := fB B k) HLI.out.l hx2
        obtain ⟨_, _, _, e4, _⟩ := HLI.out.cells hps
        obtain ⟨cu, fu⟩ := hps.sureC (B := { fB B k with last := (fenLast B k).set k x }) HLI.out.u hx3
        have S21 := hide s21
        have HFIN := hide hfin.drew
        have HGF := hide hgf.drewR
        have IX1 := hide (fun X => by have h := index_u64 sg 0 k N sc hlt X; rwa [Nat.zero_add] at h : ∀ X : World, (Instr.indexAt 29 (.slice (some ⟨sg, 0, none⟩) N sc) (.int .i64 (k : Int))).run Try.prog X = .ok (.pointer (some ⟨sg, k, none⟩)) X)
        have IX2 := hide (fun X => by have h := index_u64 lg 0 k N lc hlt X; rwa [Nat.zero_add] at h : ∀ X : World, (Instr.indexAt 29 (.slice (some ⟨lg, 0, none⟩) N lc) (.int .i64 (k : Int))).run Try.prog X = .ok (.pointer (some ⟨lg, k, none⟩)) X)
        have ixu := fun X => index_bool ug 0 k N uc hlt X
        simp only [Nat.zero_add] at ixu
        unfold U64 at HFIN HGF e4 cu fu
        clear hpl hgr hps hpt hfin hgf s21 hmk hx hx2 hx3 c0 c1 c3 c4
        generalize k / 8 = kl8 at *
        go_wp2_with (fail)
        refine wp_region_early 13 (fun Y => Y.cell? ⟨p, 3, none⟩ = some (.slice (some ⟨lg, 0, none⟩) N lc) ∧ Y.cell? ⟨p, 1, none⟩ = some (.slice (some ⟨sg, 0, none⟩) N sc) ∧ Y.cell? ⟨sg, k, none⟩ = some (.int .u64 (x : Int))) (by kernel_rfl) S21.out (fun hS => ?_)
        refine wpAnyE_take (i := 0) (v := (.pointer (some ⟨p, 0, none⟩))) rfl (by kernel_rfl) (by kernel_rfl) (by kernel_rfl) (by kernel_rfl) (fun _ _ _ h => h) (Or.inl ⟨by kernel_rfl, fun w' hw => by (go_simp)⟩) hS ?_
        refine wpAnyE_take (i := 1) (v := (.pointer (some ⟨p, 0, none⟩))) rfl (by kernel_rfl) (by kernel_rfl) (by kernel_rfl) (by kernel_rfl) (fun _ _ _ h => h) (Or.inl ⟨by kernel_rfl, fun w' hw => by (go_simp)⟩) hS ?_
        refine wpAnyE_take (i := 2) (v := (.pointer (some ⟨p, 3, none⟩))) rfl (by kernel_rfl) (by kernel_rfl) (by kernel_rfl) (by kernel_rfl) (fun _ _ _ h => h) (Or.inl ⟨by kernel_rfl, fun w' hw => by (go_simp)⟩) hS ?_
        refine wpAnyE_take (i := 3) (v := (.slice (some ⟨lg, 0, none⟩) N lc)) rfl (by kernel_rfl) (by kernel_rfl) (by kernel_rfl) (by kernel_rfl) (fun _ _ _ h => h) (Or.inl ⟨by kernel_rfl, fun w' hw => by (obtain ⟨z0, z1, z2⟩ := hw; go_simp)⟩) hS ?_
        refine wpAnyE_take (i := 4) (v := (.int .i64 (k : Int))) rfl (by kernel_rfl) (by kernel_rfl) (by kernel_rfl) (by kernel_rfl) (fun _ _ _ h => h) (Or.inl ⟨by kernel_rfl, fun w' hw => by (go_simp)⟩) hS ?_
        refine wpAnyE_take (i := 5) (v := (.pointer (some ⟨p, 0, none⟩))) rfl (by kernel_rfl) (by kernel_rfl) (by kernel_rfl) (by kernel_rfl) (fun _ _ _ h => h) (Or.inl ⟨by kernel_rfl, fun w' hw => by (go_simp)⟩) hS ?_
        refine wpAnyE_take (i := 6) (v := (.pointer (some ⟨p, 0, none⟩))) rfl (by kernel_rfl) (by kernel_rfl) (by kernel_rfl) (by kernel_rfl) (fun _ _ _ h => h) (Or.inl ⟨by kernel_rfl, fun w' hw => by (go_simp)⟩) hS ?_
        refine wpAnyE_take (i := 7) (v := (.pointer (some ⟨p, 1, none⟩))) rfl (by kernel_rfl) (by kernel_rfl) (by kernel_rfl) (by kernel_rfl) (fun _ _ _ h => h) (Or.inl ⟨by kernel_rfl, fun w' hw => by (go_simp)⟩) hS ?_
        refine wpAnyE_take (i := 8) (v := (.slice (some ⟨sg, 0, none⟩) N sc)) rfl (by kernel_rfl) (by kernel_rfl) (by kernel_rfl) (by kernel_rfl) (fun _ _ _ h => h) (Or.inl ⟨by kernel_rfl, fun w' hw => by (obtain ⟨z0, z1, z2⟩ := hw; go_simp)⟩) hS ?_
        refine wpAnyE_take (i := 9) (v := (.int .i64 (k : Int))) rfl (by kernel_rfl) (by kernel_rfl) (by kernel_rfl) (by kernel_rfl) (fun _ _ _ h => h) (Or.inl ⟨by kernel_rfl, fun w' hw => by (go_simp)⟩) hS ?_
        refine wpAnyE_take (i := 10) (v := (.pointer (some ⟨sg, k, none⟩))) rfl (by kernel_rfl) (by kernel_rfl) (by kernel_rfl) (by kernel_rfl) (fun _ _ _ h => h) (Or.inl ⟨by kernel_rfl, fun w' hw => by (have e := IX1.out w'; go_simp)⟩) hS ?_
        refine wpAnyE_take (i := 11) (v := (.int .u64 (x : Int))) rfl (by kernel_rfl) (by kernel_rfl) (by kernel_rfl) (by kernel_rfl) (fun _ _ _ h => h) (Or.inl ⟨by kernel_rfl, fun w' hw => by (obtain ⟨z0, z1, z2⟩ := hw; go_simp)⟩) hS ?_
        refine wpAnyE_take (i := 12) (v := (.pointer (some ⟨lg, k, none⟩))) rfl (by kernel_rfl) (by kernel_rfl) (by kernel_rfl) (by kernel_rfl) (fun _ _ _ h => h) (Or.inl ⟨by kernel_rfl, fun w' hw => by (have e := IX2.out w'; go_simp)⟩) hS ?_
        refine wpAnyE_do (i := 13) (by kernel_rfl) rfl (by kernel_rfl) (fun K hK => ?_)
        go_simp
        refine hK.out _ _ (fun h => absurd rfl h) ?_
        clear hK K
        refine wpAnyE_done (by kernel_rfl) ?_ _
        try simp only [Act.put, List.getElem_toArray, List.getElem_cons_zero, List.getElem_cons_succ, List.setIfInBounds_toArray, List.set_cons_zero, List.set_cons_succ]
        go_wp2_with (fail)
        go_roundw
        case rel => exact ⟨k + 1, int_congrP (by omega), by omega, HFIN.out, HGF.out⟩
        case measure => simp [intOf]; omega
      · have hfin : PlL wr p b K (fB B (k + 1)) := by
          have hn1 : ¬ B.marks[k / 8]? = some 1 := by rw [hmk]; simpa using hone
          have e1 : fenLast B (k + 1) = fenLast B k := by
            show (if B.marks[k / 8]? = some 1 then _ else _) = _
            rw [if_neg hn1]
          have e2 : fenSure B (k + 1) = fenSure B k := by
            show (if B.marks[k / 8]? = some 1 then _ else _) = _
            rw [if_neg hn1]
          unfold fB
          rw [e1, e2]
          exact hpl
        have HFIN := hide hfin
        have HGF := hide hgr
        have mkI : ¬ (mk : Int) = 1 := by omega
        clear hpl hgr hfin hmk hx hx2 hx3 c0 c1 c3 c4
        generalize k / 8 = kl8 at *
        go_wp2_with (fail)
        go_roundw
        case rel => exact ⟨k + 1, int_congrP (by omega), by omega, HFIN.out, HGF.out⟩
        case measure => simp [intOf]; omega
    · have kI : ¬ (k : Int) < (N : Int) := by omega
      obtain rfl : k = N := by omega
      have hpl0 : PlL wr p b K (gB B 0) := by
        unfold gB
        rw [HS.out]
        exact hpl
      have HPL := hide hpl0
      have HGR := hide hgr
      clear hpl hpl0 hgr
      go_wp2_with (fail)
      try go_frame
      obtain ⟨W5, rfl⟩ : ∃ x, x = wr := ⟨_, rfl⟩
      go_loopw [9] (fun iv wx => ∃ j : Nat, iv = .int .i64 (j : Int) ∧ j ≤ m ∧ PlL wx p b K (gB B j) ∧ Gr (FootR (rowsOf K B)) W1 wx) (fun iv _ => (m - (intOf iv).toNat))
      case atStart => exact ⟨0, rfl, Nat.zero_le _, HPL.out, HGR.out⟩
      case round =>
        obtain ⟨j, rfl, hj, hpl, hgr⟩ := hrel
        obtain ⟨c0, c1, c3, c4, c5⟩ := HLI.out.cells hpl
        have mI : (m : Int) ≤ 4 := by omega
        by_cases hjm : j < m
        · have jI : (j : Int) < (m : Int) := by omega
          have hml : (List.replicate j 0 ++ B.marks.drop j).length = m := by rw [List.length_append, List.length_replicate, List.length_drop, HM.out]; omega
          obtain ⟨x, hx⟩ : ∃ x, (gB B j).marks[j]? = some x := ⟨_, List.getElem?_eq_getElem (by show j < (List.replicate j 0 ++ B.marks.drop j).length; omega)⟩
          obtain ⟨cm, fm⟩ := hpl.markC HLI.out.m hx
          have hps := hpl.set_mark (j := j) (x := 0) HLI.out.m hml
          have hfin : PlL (wr.setCell ⟨mg, j, none⟩ (MI 0)) p b K (gB B (j + 1)) := by
            have e : (List.replicate j 0 ++ B.marks.drop j).set j 0 = List.replicate (j + 1) 0 ++ B.marks.drop (j + 1) := by
              refine List.ext_getElem? fun q => ?_
              rw [List.getElem?_set, hml]
              by_cases e1 : j = q
              · subst e1
                rw [if_pos rfl, if_pos hjm, List.getElem?_append_left (by simp), List.getElem?_replicate, if_pos (by omega)]
              · rw [if_neg e1]
                by_cases e2 : q < j
                · rw [List.getElem?_append_left (by simp; omega), List.getElem?_append_left (by simp; omega), List.getElem?_replicate, List.getElem?_replicate, if_pos e2, if_pos (by omega)]
                · rw [List.getElem?_append_right (by simp; omega), List.getElem?_append_right (by simp; omega), List.getElem?_drop, List.getElem?_drop]
                  congr 1
                  simp
                  omega
            have e3 : gB B (j + 1) = { gB B j with marks := (gB B j).marks.set j 0 } := by
              show ({ fB B B.seen.length with marks := _ } : Bk) = { fB B B.seen.length with marks := (List.replicate j 0 ++ B.marks.drop j).set j 0 }
              rw [e]
            rw [e3]
            exact hps
          have hgf : Gr (FootR (rowsOf K B)) W1 (wr.setCell ⟨mg, j, none⟩ (MI 0)) := hgr.trans (Gr.set _ mg j _ (X := FootR (rowsOf K B)) HLI.out.xm) (fun i h => .inl h)
          have HFIN := hide hfin
          have HGF := hide hgf
          have ixm := fun X => index_ints mg 0 j m mc hjm X
          simp only [Nat.zero_add] at ixm
          unfold MI at HFIN HGF
          clear hpl hgr hps hfin hgf hml hx c0 c1 c3 c4
          go_wp2_with (fail)
          go_roundw
          case rel => exact ⟨j + 1, int_congrP (by omega), by omega, HFIN.out, HGF.out⟩
          case measure => simp [intOf]; omega
        · have jI : ¬ (j : Int) < (m : Int) := by omega
          obtain rfl : j = m := by omega
          have hpe : PlL wr p b K (bfence B) := by
            rw [← gB_end, HM.out]
            exact hpl
          have KF := hide (KS.out wr hpe hgr)
          clear hpl hgr hpe c1 c3 c4
          go_wp2_with (go_at_call 19; refine (KF.out).mono ?_; rintro e W3 ⟨c, rfl, hr⟩; have HR := hide hr; clear hr)
          go_ret
          exact ⟨c, rfl, HR.out⟩
end Go.Proofs.Ytmgeokmgidnneaa
