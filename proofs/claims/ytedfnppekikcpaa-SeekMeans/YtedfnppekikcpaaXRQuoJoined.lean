/- The document's Quote of patterns, and Cut. -/
import Derived.Test.YtedfnppekikcpaaXRdM
import Derived.Deep.DeepCutAuto
import Derived.Test.YtedfnppekikcpaaXRunI
import Derived.Test.YtedfnppekikcpaaXFitJoined
import Derived.Deep.RegionWith
import Derived.Test.YtedfnppekikcpaaXGoAJoined
namespace Go.Proofs.Ytedfnppekikcpaa
open Go.RowKit Go.Shelf
set_option linter.unusedVariables false
set_option linter.unusedSimpArgs false

theorem xscope3 {P : Program} {a : Act} {w : World} {Q : Exit → Act → World → Prop} {c R0 R1 R2 : Code} (J : Nat → Act → World → Prop) (μ : Nat → Act → World → Nat)
    (h0 : findLabel c 0 = some (Code.skip.seq R0)) (h1 : findLabel c 1 = some (Code.skip.seq R1)) (h2 : findLabel c 2 = some (Code.skip.seq R2)) (hJ : ∀ l a w, J l a w → l = 0 ∨ l = 1 ∨ l = 2)
    (p0 : ∀ a w, J 0 a w → R0.wp P (jumpA (fun l' a' w' => J l' a' w' ∧ μ l' a' w' < μ 0 a w) Q) a w)
    (p1 : ∀ a w, J 1 a w → R1.wp P (jumpA (fun l' a' w' => J l' a' w' ∧ μ l' a' w' < μ 1 a w) Q) a w)
    (p2 : ∀ a w, J 2 a w → (∀ a' w', J 1 a' w' → μ 1 a' w' < μ 2 a w → R1.wp P (jumpA (fun l'' a'' w'' => J l'' a'' w'' ∧ μ l'' a'' w'' < μ 2 a w) Q) a' w') → R2.wp P (jumpA (fun l' a' w' => J l' a' w' ∧ μ l' a' w' < μ 2 a w) Q) a w)
    (first : (∀ a w, J 0 a w → R0.wp P (jumpA J Q) a w) → c.wp P (jumpA J Q) a w) : (Code.scope c).wp P Q a w := by
  refine wp_scope_all J μ (first fun a w h => Code.wp_mono (jumpA_mono fun _ _ _ k => k.1) (p0 a w h)) fun l a w h => ?_
  rcases hJ l a w h with rfl | rfl | rfl
  · exact ⟨_, h0, wp_seq (wp_skip (p0 a w h))⟩
  · exact ⟨_, h1, wp_seq (wp_skip (p1 a w h))⟩
  · exact ⟨_, h2, wp_seq (wp_skip (p2 a w h fun a' w' h' hm => Code.wp_mono (jumpA_mono fun _ _ _ k => ⟨k.1, Nat.lt_trans k.2 hm⟩) (p1 a' w' h')))⟩
theorem goJ_then {J : Nat → Act → World → Prop} {Q : Exit → Act → World → Prop} {K : Act → World → Prop} {l : Nat} {a : Act} {w : World} (h : J l a w) : Exit.then K (jumpA J Q) (.goto l) a w := h
theorem goJ_plain {J : Nat → Act → World → Prop} {Q : Exit → Act → World → Prop} {l : Nat} {a : Act} {w : World} (h : J l a w) : jumpA J Q (.goto l) a w := h
theorem goJ_block {J : Nat → Act → World → Prop} {Q : Exit → Act → World → Prop} {K : Act → World → Prop} {l i : Nat} {a : Act} {w : World} (h : J l a w) : Exit.inBlock i (Exit.then K (jumpA J Q)) (.goto l) a w := h
theorem kcs_at : ∀ (its : List Kd) (us : List Value) (i : Nat) (x : Kd) (u : Value), its[i]? = some x → us[i]? = some u → (kcs its us)[i * 2]? = some (.int .i64 (x.1 : Int)) ∧ (kcs its us)[i * 2 + 1]? = some u
  | [], _, i, x, u, h, _ => by simp at h
  | _ :: _, [], i, x, u, _, h => by simp at h
  | y :: its, z :: us, 0, x, u, h1, h2 => by
    obtain rfl : y = x := by simpa using h1
    obtain rfl : z = u := by simpa using h2
    exact ⟨rfl, rfl⟩
  | y :: its, z :: us, i + 1, x, u, h1, h2 => by
    have ih := kcs_at its us i x u (by simpa using h1) (by simpa using h2)
    have e : kcs (y :: its) (z :: us) = .int .i64 (y.1 : Int) :: z :: kcs its us := rfl
    rw [e, show (i + 1) * 2 = i * 2 + 1 + 1 by omega, List.getElem?_cons_succ, List.getElem?_cons_succ, List.getElem?_cons_succ, List.getElem?_cons_succ]
    exact ih
/-- The items that a reader has put, as a pattern keeps them. -/
theorem Rdg.items {w0 wr : World} {b p : Nat} {s : ByteArray} {f : Bool} {v : Value} {its : List Kd} {pd : List (Value × (Ch → Bool))} (h : Rdg w0 b s f wr p v its pd) : ItemsV (fun k => w0.heap.size ≤ k ∧ k < wr.heap.size) wr v its := by
  obtain ⟨us, h1, h2, h3⟩ := h.row
  refine ⟨fun k hk => hk.2, ?_⟩
  have hob := h.ob
  have hobl := h.obl
  rcases h2.2 with ⟨e1, e2⟩ | ⟨g, cap, cur, e1, _, hg, _, _, _, hc⟩
  · exact .inl ⟨e1, List.eq_nil_of_length_eq_zero e2⟩
  · subst e1
    have hgo := hob g rfl
    have hgl := hobl g rfl
    refine .inr ⟨g, cap, rfl, ⟨Nat.le_of_lt hgo, hgl⟩, fun i x hx => ?_⟩
    obtain ⟨u, hu⟩ : ∃ u, us[i]? = some u := by
      have := (List.getElem?_eq_some_iff.1 hx).1
      exact ⟨us[i]'(by omega), List.getElem?_eq_getElem (by omega)⟩
    obtain ⟨k1, k2⟩ := kcs_at its us i x u hx hu
    have hcl : ∀ (j : Nat) (y : Value), (kcs its us)[j]? = some y → wr.cell? ⟨g, j, none⟩ = some y := fun j y hy => by
      rw [← hc, List.getElem?_take] at hy
      split at hy
      · exact cel2' hg j y (by simpa using hy)
      · simp at hy
    have hz : (x, u) ∈ its.zip us := List.mem_of_getElem? (i := i) (by rw [List.getElem?_zip_eq_some]; exact ⟨hx, hu⟩)
    refine ⟨u, hcl _ _ k1, hcl _ _ k2, fun hk => ?_, fun hk => ?_⟩
    · rcases h3 _ hz with ⟨g1, _⟩ | ⟨_, E, g1, g2⟩
      · exact absurd g1 (by show ¬ x.1 < 2; omega)
      · exact g2.wider (fun k hk => ⟨Nat.le_of_lt (g1 k hk).1, g2.1 k hk⟩) (fun k hk => hk.2)
    · rcases h3 _ hz with ⟨_, g1⟩ | ⟨g1, _⟩
      · exact g1
      · exact absurd g1 (by show ¬ 2 ≤ x.1; omega)
theorem rmap (r : Option (List Kd)) (a c : List Kd) : (r.map (c ++ ·)).map (a ++ ·) = r.map ((a ++ c) ++ ·) := by
  cases r <;> simp
theorem rmap1 (r : Option (List Kd)) (a : List Kd) (x : Kd) : (r.map (x :: ·)).map (a ++ ·) = r.map ((a ++ [x]) ++ ·) := by
  cases r <;> simp
def muR (s : ByteArray) (b c : Nat) (wr : World) : Nat := 4 * (s.size - (intOf ((wr.cell? ⟨b, 1, none⟩).getD undef)).toNat) + c
theorem muR_at {s : ByteArray} {b c p : Nat} {f : Bool} {v : Value} {wr : World} (h : Rx wr b s p f v) : muR s b c wr = 4 * (s.size - p) + c := by
  unfold muR
  rw [h.at]
  simp [intOf]
/-- An activation of read: some of its slots. -/
def Sl (x : Act) (ps : List (Nat × Value)) : Prop := x.tmps.size = 87 ∧ x.defers = [] ∧ ∀ t ∈ ps, x.tmps[t.1]? = some t.2
theorem list_range (l : List Value) : l = (List.range l.length).map fun i => l.getD i undef := by
  refine List.ext_getElem? fun i => ?_
  by_cases h : i < l.length
  · rw [List.getElem?_map, List.getElem?_range h, List.getElem?_eq_getElem h]
    simp [List.getD, h]
  · rw [List.getElem?_eq_none (by omega), List.getElem?_eq_none (by simp; omega)]
theorem sl_get {x : Act} {ps : List (Nat × Value)} (h : Sl x ps) : ∃ T : Nat → Value, x = { tmps := #[T 0, T 1, T 2, T 3, T 4, T 5, T 6, T 7, T 8, T 9, T 10, T 11, T 12, T 13, T 14, T 15, T 16, T 17, T 18, T 19, T 20, T 21, T 22, T 23, T 24, T 25, T 26, T 27, T 28, T 29, T 30, T 31, T 32, T 33, T 34, T 35, T 36, T 37, T 38, T 39, T 40, T 41, T 42, T 43, T 44, T 45, T 46, T 47, T 48, T 49, T 50, T 51, T 52, T 53, T 54, T 55, T 56, T 57, T 58, T 59, T 60, T 61, T 62, T 63, T 64, T 65, T 66, T 67, T 68, T 69, T 70, T 71, T 72, T 73, T 74, T 75, T 76, T 77, T 78, T 79, T 80, T 81, T 82, T 83, T 84, T 85, T 86], defers := [] } ∧ ∀ t ∈ ps, T t.1 = t.2 := by
  obtain ⟨h1, h2, h3⟩ := h
  obtain ⟨tm, df⟩ := x
  simp only at h1 h2 h3
  subst h2
  have hl : tm.toList.length = 87 := h1
  have k := list_range tm.toList
  rw [hl] at k
  refine ⟨fun i => tm.toList.getD i undef, ?_, fun t ht => ?_⟩
  · have : tm = #[tm.toList.getD 0 undef, tm.toList.getD 1 undef, tm.toList.getD 2 undef, tm.toList.getD 3 undef, tm.toList.getD 4 undef, tm.toList.getD 5 undef, tm.toList.getD 6 undef, tm.toList.getD 7 undef, tm.toList.getD 8 undef, tm.toList.getD 9 undef, tm.toList.getD 10 undef, tm.toList.getD 11 undef, tm.toList.getD 12 undef, tm.toList.getD 13 undef, tm.toList.getD 14 undef, tm.toList.getD 15 undef, tm.toList.getD 16 undef, tm.toList.getD 17 undef, tm.toList.getD 18 undef, tm.toList.getD 19 undef, tm.toList.getD 20 undef, tm.toList.getD 21 undef, tm.toList.getD 22 undef, tm.toList.getD 23 undef, tm.toList.getD 24 undef, tm.toList.getD 25 undef, tm.toList.getD 26 undef, tm.toList.getD 27 undef, tm.toList.getD 28 undef, tm.toList.getD 29 undef, tm.toList.getD 30 undef, tm.toList.getD 31 undef, tm.toList.getD 32 undef, tm.toList.getD 33 undef, tm.toList.getD 34 undef, tm.toList.getD 35 undef, tm.toList.getD 36 undef, tm.toList.getD 37 undef, tm.toList.getD 38 undef, tm.toList.getD 39 undef, tm.toList.getD 40 undef, tm.toList.getD 41 undef, tm.toList.getD 42 undef, tm.toList.getD 43 undef, tm.toList.getD 44 undef, tm.toList.getD 45 undef, tm.toList.getD 46 undef, tm.toList.getD 47 undef, tm.toList.getD 48 undef, tm.toList.getD 49 undef, tm.toList.getD 50 undef, tm.toList.getD 51 undef, tm.toList.getD 52 undef, tm.toList.getD 53 undef, tm.toList.getD 54 undef, tm.toList.getD 55 undef, tm.toList.getD 56 undef, tm.toList.getD 57 undef, tm.toList.getD 58 undef, tm.toList.getD 59 undef, tm.toList.getD 60 undef, tm.toList.getD 61 undef, tm.toList.getD 62 undef, tm.toList.getD 63 undef, tm.toList.getD 64 undef, tm.toList.getD 65 undef, tm.toList.getD 66 undef, tm.toList.getD 67 undef, tm.toList.getD 68 undef, tm.toList.getD 69 undef, tm.toList.getD 70 undef, tm.toList.getD 71 undef, tm.toList.getD 72 undef, tm.toList.getD 73 undef, tm.toList.getD 74 undef, tm.toList.getD 75 undef, tm.toList.getD 76 undef, tm.toList.getD 77 undef, tm.toList.getD 78 undef, tm.toList.getD 79 undef, tm.toList.getD 80 undef, tm.toList.getD 81 undef, tm.toList.getD 82 undef, tm.toList.getD 83 undef, tm.toList.getD 84 undef, tm.toList.getD 85 undef, tm.toList.getD 86 undef] := by
      apply Array.toList_inj.1
      exact k
    exact congrArg (fun m => ({ tmps := m, defers := [] } : Act)) this
  · have h4 := h3 t ht
    rw [← Array.getElem?_toList] at h4
    simp [List.getD, h4]
theorem sl_two {x : Act} {a c : Value} (h1 : x.tmps.size = 87) (h2 : x.defers = []) (h3 : x.tmps[0]? = some a) (h4 : x.tmps[4]? = some c) : Sl x [(0, a), (4, c)] :=
  ⟨h1, h2, fun t ht => by
    rcases List.mem_cons.1 ht with rfl | ht
    · exact h3
    · obtain rfl := List.mem_singleton.1 ht
      exact h4⟩
theorem sl_three {x : Act} {a c d : Value} (h1 : x.tmps.size = 87) (h2 : x.defers = []) (h3 : x.tmps[0]? = some a) (h4 : x.tmps[4]? = some c) (h5 : x.tmps[3]? = some d) : Sl x [(0, a), (4, c), (3, d)] :=
  ⟨h1, h2, fun t ht => by
    rcases List.mem_cons.1 ht with rfl | ht
    · exact h3
    · rcases List.mem_cons.1 ht with rfl | ht
      · exact h4
      · obtain rfl := List.mem_singleton.1 ht
        exact h5⟩
/-- What holds at the three labels: next, count, set. -/
def RJ (w0 : World) (b : Nat) (s : ByteArray) (f : Bool) (R : Option (List Kd)) (q : Nat) : Nat → Act → World → Prop
  | 0, x, wr => ∃ (p : Nat) (v : Value) (its : List Kd) (r : Option (List Kd)), Sl x [(0, .pointer (some ⟨b, 0, none⟩)), (4, .pointer (some ⟨w0.heap.size, 0, none⟩))] ∧ Rdg w0 b s f wr p v its [] ∧ p ≤ s.size ∧ its.length ≤ 2 * p ∧ Rd s f p r q ∧ R = r.map (its ++ ·)
  | 1, x, wr => ∃ (p : Nat) (v : Value) (its : List Kd) (P : Ch → Bool) (r : Option (List Kd)) (fu : Nat) (lb : Array Value), Sl x [(0, .pointer (some ⟨b, 0, none⟩)), (4, .pointer (some ⟨w0.heap.size, 0, none⟩)), (3, .func (.func fu) #[] lb)] ∧ Rdg w0 b s f wr p v its [(.func (.func fu) #[] lb, P)] ∧ p ≤ s.size ∧ its.length + 2 ≤ 2 * p ∧ Rd s f (cntN s p) r q ∧ R = (r.map (cntI s p P ++ ·)).map (its ++ ·)
  | 2, x, wr => ∃ (p p' : Nat) (v : Value) (its : List Kd), Sl x [(0, .pointer (some ⟨b, 0, none⟩)), (4, .pointer (some ⟨w0.heap.size, 0, none⟩))] ∧ Rdg w0 b s f wr p v its [] ∧ p ≤ s.size ∧ its.length ≤ 2 * p ∧ ((∃ P r, SetC s f p (some P) p' ∧ Rd s f (cntN s p') r q ∧ R = (r.map (cntI s p' P ++ ·)).map (its ++ ·)) ∨ (SetC s f p none p' ∧ q = p' ∧ R = none))
  | _, _, _ => False

set_option maxRecDepth 100000 in
set_option maxHeartbeats 16000000 in
theorem xread_any (b : Nat) (s : ByteArray) (w0 : World) (h : Rx w0 b s 0 false (.slice none 0 0)) (hs : s.size ≤ 65536) (f : Bool) (p0 : Nat)
    (hf : if Lib.hasPrefix s.data.toList (⟨#[92, 105]⟩ : ByteArray).data.toList = true then f = true ∧ p0 = 2 ∧ 2 ≤ s.size else f = false ∧ p0 = 0) (R : Option (List Kd)) (q : Nat) (hR : Rd s f p0 R q) :
    Calls Try.prog 15 #[.pointer (some ⟨b, 0, none⟩)] w0 fun e w' => e = .returned (.bool R.isSome) ∧ ∃ v, Rx w' b s q f v ∧ GrX (fun j => j = b) w0 w' ∧ ∀ its, R = some its → its.length ≤ 2 * s.size ∧ ItemsV (fun k => w0.heap.size ≤ k ∧ k < w'.heap.size) w' v its := by
  have HS1 := hide hs
  have HS : Hid (s.size ≤ 140737488355328) := by show _ ≤ _; omega
  have hB : Below w0.heap.size w0 (w0.alloc (.cells #[.int .i32 0, .bool false] 79)) := (Below.refl _ w0).alloc (Nat.le_refl _) _
  have h4 := heap_alloc_new w0 (.cells #[.int .i32 0, .bool false] 79)
  have hlt := h.lt
  have pn := fun W => part_nil W
  have ps := fun gf lb W => part_set gf lb W
  have start : ∀ W, GrX (fun j => j = b) (w0.alloc (.cells #[.int .i32 0, .bool false] 79)) W → Rx W b s p0 f (.slice none 0 0) → Rdg w0 b s f W p0 (.slice none 0 0) [] [] := fun W hg hr =>
    ⟨hr, hlt, (GrX.of_below hB).trans hg, ⟨0, false, (hg.2.2.2.2 _ (Array.getElem?_eq_some_iff.1 h4).1 (fun e => by omega)).trans h4⟩, ⟨[], rfl, World.ownsRow_nil _ _ _ _, fun t ht => absurd ht (by simp)⟩, fun g hg => by simp [Value.ownBlock] at hg, fun t ht => absurd ht (by simp)⟩
  have HRX := hide (h.below hB)
  have START := hide start
  have HRD := hide hR
  have HF := hide hf
  have hp0 : p0 ≤ s.size := by
    split at hf
    · omega
    · omega
  have HP0 := hide hp0
  clear h hB h4 start hR hf hp0 hs hlt
  go_enter Try.func15, Try.ntmps15
  go_wp2_with (fail)
  refine xscope3 (RJ w0 b s f R q) (fun l _ wr => muR s b (if l = 0 then 0 else 1) wr) rfl rfl rfl (fun l a w h => ?_) ?_ ?_ ?_ ?_
  · match l, h with
    | 0, _ => exact .inl rfl
    | 1, _ => exact .inr (.inl rfl)
    | 2, _ => exact .inr (.inr rfl)
  · -- next
    intro x wr hJ
    obtain ⟨p, v, its, r, hSl, hRd, hp, hl, hr, hRe⟩ := hJ
    obtain ⟨T, rfl, hT⟩ := sl_get hSl
    have h0 : T 0 = .pointer (some ⟨b, 0, none⟩) := hT (0, .pointer (some ⟨b, 0, none⟩)) (by simp)
    have h4 : T 4 = .pointer (some ⟨w0.heap.size, 0, none⟩) := hT (4, .pointer (some ⟨w0.heap.size, 0, none⟩)) (by simp)
    rw [h0, h4]
    clear h0 h4 hT hSl
    simp only
    rw [muR_at hRd.rx]
    have HR := hide hRd
    have HP := hide hp
    have HL := hide hl
    have HE := hide hRe
    clear START HRX HRD HF HP0 hRd hp hl hRe
    cases hr with
    | fin =>
      have hdn : decide (s.size = s.size) = true := decide_eq_true rfl
      go_wp2_with (first
        | (go_at_call 27; refine Calls.mono (rdg_done (by exact HR.out) (by have := HP.out; omega)) ?_; rintro e x ⟨rfl, hRn⟩; replace HR := hide hRn; clear hRn; simp only [hdn]))
      rw [jumpA_ret]
      go_ret
      refine ⟨by rw [HE.out]; rfl, v, HR.out.rx, HR.out.gr, fun its' h' => ?_⟩
      obtain rfl : its = its' := by
        have := HE.out.symm.trans h'
        simpa using this
      exact ⟨HL.out, HR.out.items⟩
    | beg _ r0 _ h1 h2 =>
      have HD := hide h2
      have x94 := h1
      have hlt := xAt_lt h1
      have hdn : decide (p = s.size) = false := decide_eq_false (by omega)
      have HLT := hide hlt
      clear h1 h2 hlt
      go_wp2_with (first
        | (go_at_call 27; refine Calls.mono (rdg_done (by exact HR.out) (by have := HP.out; omega)) ?_; rintro e x ⟨rfl, hRn⟩; replace HR := hide hRn; clear hRn; simp only [hdn])
        | (go_at_call 28; refine Calls.mono (rdg_takes (by exact HR.out) (by have := HP.out; omega) HS.out _) ?_; rintro e x ⟨rfl, hRn⟩; replace HR := hide hRn; clear hRn; simp only [x94, Bool.false_eq_true, if_false, if_true] at HR ⊢)
        | (go_at_call 29; refine Calls.mono (rdg_put (by exact HR.out) 0 .nilFunc nP (.inl ⟨by decide, rfl⟩) (by have := HL.out; have := HP.out; have := HS1.out; simp; omega)) ?_; rintro e x ⟨rfl, vn, hRn⟩; replace HR := hide hRn; clear hRn))
      try go_step3
      first | refine goJ_then ?_ | refine goJ_plain ?_ | refine goJ_block ?_
      have hrx := HR.out.rx
      refine ⟨⟨p + 1, vn, its ++ [(0, nP)], r0, sl_two rfl rfl rfl rfl, HR.out, HLT.out, by have := HL.out; simp; omega, HD.out, by rw [HE.out, rmap1]⟩, ?_⟩
      rw [muR_at hrx]
      have := HLT.out
      simp
      omega
    | stop _ r0 _ h1 h2 =>
      have HD := hide h2
      have x94 := xAt_other h1 (k := 94) (by decide)
      have x36 := h1
      have hlt := xAt_lt h1
      have hdn : decide (p = s.size) = false := decide_eq_false (by omega)
      have HLT := hide hlt
      clear h1 h2 hlt
      go_wp2_with (first
        | (go_at_call 27; refine Calls.mono (rdg_done (by exact HR.out) (by have := HP.out; omega)) ?_; rintro e x ⟨rfl, hRn⟩; replace HR := hide hRn; clear hRn; simp only [hdn])
        | (go_at_call 28; refine Calls.mono (rdg_takes (by exact HR.out) (by have := HP.out; omega) HS.out _) ?_; rintro e x ⟨rfl, hRn⟩; replace HR := hide hRn; clear hRn; simp only [x94, x36, Bool.false_eq_true, if_false, if_true] at HR ⊢)
        | (go_at_call 29; refine Calls.mono (rdg_put (by exact HR.out) 1 .nilFunc nP (.inl ⟨by decide, rfl⟩) (by have := HL.out; have := HP.out; have := HS1.out; simp; omega)) ?_; rintro e x ⟨rfl, vn, hRn⟩; replace HR := hide hRn; clear hRn))
      try go_step3
      first | refine goJ_then ?_ | refine goJ_plain ?_ | refine goJ_block ?_
      have hrx := HR.out.rx
      refine ⟨⟨p + 1, vn, its ++ [(1, nP)], r0, sl_two rfl rfl rfl rfl, HR.out, HLT.out, by have := HL.out; simp; omega, HD.out, by rw [HE.out, rmap1]⟩, ?_⟩
      rw [muR_at hrx]
      have := HLT.out
      simp
      omega
    | rep _ h1 =>
      rcases h1 with h1 | h1 | h1
      all_goals (
        have hlt := xAt_lt h1
        have hdn : decide (q = s.size) = false := decide_eq_false (by omega)
        have x94 := xAt_other h1 (k := 94) (by decide)
        have x36 := xAt_other h1 (k := 36) (by decide)
        first
          | have x42 : xAt s q 42 = true := h1
          | have x42 := xAt_other h1 (k := 42) (by decide)
        first
          | have x43 : xAt s q 43 = true := h1
          | have x43 := xAt_other h1 (k := 43) (by decide)
        first
          | have x63 : xAt s q 63 = true := h1
          | have x63 := xAt_other h1 (k := 63) (by decide)
        clear h1 hlt
        go_wp2_with (first
          | (go_at_call 27; refine Calls.mono (rdg_done (by exact HR.out) (by have := HP.out; omega)) ?_; rintro e x ⟨rfl, hRn⟩; replace HR := hide hRn; clear hRn; simp only [hdn])
          | (go_at_call 28; refine Calls.mono (rdg_takes (by exact HR.out) (by have := HP.out; omega) HS.out _) ?_; rintro e x ⟨rfl, hRn⟩; replace HR := hide hRn; clear hRn; simp only [x94, x36, Bool.false_eq_true, if_false, if_true] at HR ⊢)
          | (go_at_call 30; refine Calls.mono (rdg_sees (by exact HR.out) (by have := HP.out; omega) HS.out _) ?_; rintro e x ⟨rfl, hRn⟩; replace HR := hide hRn; clear hRn; simp only [x42, x43, x63]))
        rw [jumpA_ret]
        go_ret
        exact ⟨by rw [HE.out]; rfl, v, HR.out.rx, HR.out.gr, fun its' h' => by rw [HE.out] at h'; simp at h'⟩)
    | dot _ r0 _ h1 h2 =>
      have HD := hide h2
      have hlt := xAt_lt h1
      have hdn : decide (p = s.size) = false := decide_eq_false (by omega)
      have x94 := xAt_other h1 (k := 94) (by decide)
      have x36 := xAt_other h1 (k := 36) (by decide)
      have x42 := xAt_other h1 (k := 42) (by decide)
      have x43 := xAt_other h1 (k := 43) (by decide)
      have x63 := xAt_other h1 (k := 63) (by decide)
      have x46 := h1
      have HLT := hide hlt
      clear h1 h2 hlt
      go_wp2_with (first
        | (go_at_call 27; refine Calls.mono (rdg_done (by exact HR.out) (by have := HP.out; omega)) ?_; rintro e x ⟨rfl, hRn⟩; replace HR := hide hRn; clear hRn; simp only [hdn])
        | (go_at_call 28; refine Calls.mono (rdg_takes (by exact HR.out) (by have := HP.out; omega) HS.out _) ?_; rintro e x ⟨rfl, hRn⟩; replace HR := hide hRn; clear hRn; simp only [x94, x36, x46, Bool.false_eq_true, if_false, if_true] at HR ⊢)
        | (go_at_call 30; refine Calls.mono (rdg_sees (by exact HR.out) (by have := HP.out; omega) HS.out _) ?_; rintro e x ⟨rfl, hRn⟩; replace HR := hide hRn; clear hRn; simp only [x42, x43, x63]))
      try go_step3
      first | refine goJ_then ?_ | refine goJ_plain ?_ | refine goJ_block ?_
      have hrx := HR.out.rx
      refine ⟨⟨p + 1, v, its, _, r0, _, _, sl_three rfl rfl rfl rfl rfl, HR.out.dot, HLT.out, by have := HL.out; omega, HD.out, HE.out⟩, ?_⟩
      rw [muR_at hrx]
      have := HLT.out
      simp
      omega
    | set _ p' P r0 _ h1 h2 h3 =>
      have HC := hide h2
      have HD := hide h3
      have hlt := xAt_lt h1
      have hdn : decide (p = s.size) = false := decide_eq_false (by omega)
      have x94 := xAt_other h1 (k := 94) (by decide)
      have x36 := xAt_other h1 (k := 36) (by decide)
      have x42 := xAt_other h1 (k := 42) (by decide)
      have x43 := xAt_other h1 (k := 43) (by decide)
      have x63 := xAt_other h1 (k := 63) (by decide)
      have x46 := xAt_other h1 (k := 46) (by decide)
      have x91 := h1
      have HLT := hide hlt
      clear h1 h2 h3 hlt
      go_wp2_with (first
        | (go_at_call 27; refine Calls.mono (rdg_done (by exact HR.out) (by have := HP.out; omega)) ?_; rintro e x ⟨rfl, hRn⟩; replace HR := hide hRn; clear hRn; simp only [hdn])
        | (go_at_call 28; refine Calls.mono (rdg_takes (by exact HR.out) (by have := HP.out; omega) HS.out _) ?_; rintro e x ⟨rfl, hRn⟩; replace HR := hide hRn; clear hRn; simp only [x94, x36, x46, x91, Bool.false_eq_true, if_false, if_true] at HR ⊢)
        | (go_at_call 30; refine Calls.mono (rdg_sees (by exact HR.out) (by have := HP.out; omega) HS.out _) ?_; rintro e x ⟨rfl, hRn⟩; replace HR := hide hRn; clear hRn; simp only [x42, x43, x63]))
      try go_step3
      first | refine goJ_then ?_ | refine goJ_plain ?_ | refine goJ_block ?_
      have hrx := HR.out.rx
      refine ⟨⟨p + 1, p', v, its, sl_two rfl rfl rfl rfl, HR.out, HLT.out, by have := HL.out; omega, .inl ⟨P, r0, HC.out, HD.out, HE.out⟩⟩, ?_⟩
      rw [muR_at hrx]
      have := HLT.out
      simp
      omega
    | noset _ p' h1 h2 =>
      have HC := hide h2
      have hlt := xAt_lt h1
      have hdn : decide (p = s.size) = false := decide_eq_false (by omega)
      have x94 := xAt_other h1 (k := 94) (by decide)
      have x36 := xAt_other h1 (k := 36) (by decide)
      have x42 := xAt_other h1 (k := 42) (by decide)
      have x43 := xAt_other h1 (k := 43) (by decide)
      have x63 := xAt_other h1 (k := 63) (by decide)
      have x46 := xAt_other h1 (k := 46) (by decide)
      have x91 := h1
      have HLT := hide hlt
      clear h1 h2 hlt
      go_wp2_with (first
        | (go_at_call 27; refine Calls.mono (rdg_done (by exact HR.out) (by have := HP.out; omega)) ?_; rintro e x ⟨rfl, hRn⟩; replace HR := hide hRn; clear hRn; simp only [hdn])
        | (go_at_call 28; refine Calls.mono (rdg_takes (by exact HR.out) (by have := HP.out; omega) HS.out _) ?_; rintro e x ⟨rfl, hRn⟩; replace HR := hide hRn; clear hRn; simp only [x94, x36, x46, x91, Bool.false_eq_true, if_false, if_true] at HR ⊢)
        | (go_at_call 30; refine Calls.mono (rdg_sees (by exact HR.out) (by have := HP.out; omega) HS.out _) ?_; rintro e x ⟨rfl, hRn⟩; replace HR := hide hRn; clear hRn; simp only [x42, x43, x63]))
      try go_step3
      first | refine goJ_then ?_ | refine goJ_plain ?_ | refine goJ_block ?_
      have hrx := HR.out.rx
      refine ⟨⟨p + 1, q, v, its, sl_two rfl rfl rfl rfl, HR.out, HLT.out, by have := HL.out; omega, .inr ⟨HC.out, rfl, HE.out⟩⟩, ?_⟩
      rw [muR_at hrx]
      have := HLT.out
      simp
      omega
    | kind _ p' P r0 _ h1 h2 h3 =>
      have HC := hide h2
      have HD := hide h3
      obtain ⟨hlt, x94, x36, x42, x43, x63, x46, x91⟩ := h1
      have hdn : decide (p = s.size) = false := decide_eq_false (by omega)
      have HLT := hide hlt
      clear h2 h3 hlt
      go_upto_region 20 with (first
        | (go_at_call 27; refine Calls.mono (rdg_done (by exact HR.out) (by have := HP.out; omega)) ?_; rintro e x ⟨rfl, hRn⟩; replace HR := hide hRn; clear hRn; simp only [hdn])
        | (go_at_call 28; refine Calls.mono (rdg_takes (by exact HR.out) (by have := HP.out; omega) HS.out _) ?_; rintro e x ⟨rfl, hRn⟩; replace HR := hide hRn; clear hRn; simp only [x94, x36, x46, x91, Bool.false_eq_true, if_false, if_true] at HR ⊢)
        | (go_at_call 30; refine Calls.mono (rdg_sees (by exact HR.out) (by have := HP.out; omega) HS.out _) ?_; rintro e x ⟨rfl, hRn⟩; replace HR := hide hRn; clear hRn; simp only [x42, x43, x63]))
      obtain ⟨s0, s1, hsg⟩ := HR.out.sg
      go_upto_region 21 with (go_at_call 32; refine Calls.mono (rdg_kind (by exact HR.out) HC.out) ?_; rintro e x9 ⟨fu, lb, c0, c1, rfl, hRn⟩; replace HR := hide hRn; obtain ⟨s0', s1', hsg'⟩ := hRn.sg; obtain ⟨a40, a41, a4f⟩ := chr_facts (b := b) hsg'; clear hRn hsg')
      obtain ⟨hrs, hst⟩ := HR.out.store c0 c1
      replace HR := hide hrs
      clear hrs
      generalize (x9.setCell ⟨w0.heap.size, 0, none⟩ (.int .i32 c0)).setCell ⟨w0.heap.size, 1, none⟩ (.bool c1) = y9 at *
      clear a40 a41 a4f
      go_wp2_with (fail)
      try go_step3
      first | refine goJ_then ?_ | refine goJ_plain ?_ | refine goJ_block ?_
      have hrx := HR.out.rx
      have hq1 := HC.out.1
      have hq2 := HC.out.2.1
      have hq3 := HC.out.2.2.1 (by simp)
      refine ⟨⟨p', v, its, P, r0, fu, lb, sl_three rfl rfl rfl rfl rfl, HR.out, hq2, by have := HL.out; omega, HD.out, HE.out⟩, ?_⟩
      rw [muR_at hrx]
      have := HLT.out
      simp
      omega
    | one _ p' c r0 _ h1 h2 h3 =>
      have HC := hide h2
      have HD := hide h3
      obtain ⟨hlt, x94, x36, x42, x43, x63, x46, x91⟩ := h1
      have hdn : decide (p = s.size) = false := decide_eq_false (by omega)
      have HLT := hide hlt
      clear h2 h3 hlt
      go_upto_region 20 with (first
        | (go_at_call 27; refine Calls.mono (rdg_done (by exact HR.out) (by have := HP.out; omega)) ?_; rintro e x ⟨rfl, hRn⟩; replace HR := hide hRn; clear hRn; simp only [hdn])
        | (go_at_call 28; refine Calls.mono (rdg_takes (by exact HR.out) (by have := HP.out; omega) HS.out _) ?_; rintro e x ⟨rfl, hRn⟩; replace HR := hide hRn; clear hRn; simp only [x94, x36, x46, x91, Bool.false_eq_true, if_false, if_true] at HR ⊢)
        | (go_at_call 30; refine Calls.mono (rdg_sees (by exact HR.out) (by have := HP.out; omega) HS.out _) ?_; rintro e x ⟨rfl, hRn⟩; replace HR := hide hRn; clear hRn; simp only [x42, x43, x63]))
      obtain ⟨c0, c1⟩ := c
      go_upto_region 21 with (go_at_call 32; refine Calls.mono (rdg_single (by exact HR.out) HC.out) ?_; rintro e x9 ⟨rfl, hRn⟩; replace HR := hide hRn; obtain ⟨s0', s1', hsg'⟩ := hRn.sg; obtain ⟨a40, a41, a4f⟩ := chr_facts (b := b) hsg'; clear hRn hsg')
      obtain ⟨hrs, hst⟩ := HR.out.store c0 c1
      replace HR := hide hrs
      clear hrs
      generalize (x9.setCell ⟨w0.heap.size, 0, none⟩ (.int .i32 c0)).setCell ⟨w0.heap.size, 1, none⟩ (.bool c1) = y9 at *
      obtain ⟨b40, b41, b4f⟩ := chr_facts (b := b) hst
      clear a40 a41 a4f hst
      go_wp2_with (go_at_call 33; refine Calls.mono (rdg_one (by exact HR.out) (c0, c1)) ?_; rintro e x ⟨u, rfl, hRn, fu, lb, rfl⟩; replace HR := hide hRn; clear hRn)
      try go_step3
      first | refine goJ_then ?_ | refine goJ_plain ?_ | refine goJ_block ?_
      have hrx := HR.out.rx
      have hq1 := HC.out.1
      have hq2 := HC.out.2.1
      have hq3 := HC.out.2.2.1 (by simp)
      refine ⟨⟨p', v, its, _, r0, fu, lb, sl_three rfl rfl rfl rfl rfl, HR.out, hq2, by have := HL.out; omega, HD.out, HE.out⟩, ?_⟩
      rw [muR_at hrx]
      have := HLT.out
      simp
      omega
    | no _ p' h1 h2 =>
      have HC := hide h2
      obtain ⟨hlt, x94, x36, x42, x43, x63, x46, x91⟩ := h1
      have hdn : decide (p = s.size) = false := decide_eq_false (by omega)
      have HLT := hide hlt
      clear h2 hlt
      go_upto_region 20 with (first
        | (go_at_call 27; refine Calls.mono (rdg_done (by exact HR.out) (by have := HP.out; omega)) ?_; rintro e x ⟨rfl, hRn⟩; replace HR := hide hRn; clear hRn; simp only [hdn])
        | (go_at_call 28; refine Calls.mono (rdg_takes (by exact HR.out) (by have := HP.out; omega) HS.out _) ?_; rintro e x ⟨rfl, hRn⟩; replace HR := hide hRn; clear hRn; simp only [x94, x36, x46, x91, Bool.false_eq_true, if_false, if_true] at HR ⊢)
        | (go_at_call 30; refine Calls.mono (rdg_sees (by exact HR.out) (by have := HP.out; omega) HS.out _) ?_; rintro e x ⟨rfl, hRn⟩; replace HR := hide hRn; clear hRn; simp only [x42, x43, x63]))
      go_upto_region 21 with (go_at_call 32; refine Calls.mono (rdg_bad (by exact HR.out) HC.out) ?_; rintro e x9 ⟨c0, c1, rfl, hRn⟩; replace HR := hide hRn; obtain ⟨s0', s1', hsg'⟩ := hRn.sg; obtain ⟨a40, a41, a4f⟩ := chr_facts (b := b) hsg'; clear hRn hsg')
      obtain ⟨hrs, hst⟩ := HR.out.store c0 c1
      replace HR := hide hrs
      clear hrs
      generalize (x9.setCell ⟨w0.heap.size, 0, none⟩ (.int .i32 c0)).setCell ⟨w0.heap.size, 1, none⟩ (.bool c1) = y9 at *
      clear a40 a41 a4f
      go_wp2_with (fail)
      rw [jumpA_ret]
      go_ret
      exact ⟨by rw [HE.out]; rfl, v, HR.out.rx, HR.out.gr, fun its' h' => by rw [HE.out] at h'; simp at h'⟩
  · -- count
    intro x wr hJ
    obtain ⟨p, v, its, P, r, fu, lb, hSl, hRd, hp, hl, hr, hRe⟩ := hJ
    obtain ⟨T, rfl, hT⟩ := sl_get hSl
    have h0 : T 0 = .pointer (some ⟨b, 0, none⟩) := hT (0, .pointer (some ⟨b, 0, none⟩)) (by simp)
    have h4 : T 4 = .pointer (some ⟨w0.heap.size, 0, none⟩) := hT (4, .pointer (some ⟨w0.heap.size, 0, none⟩)) (by simp)
    have h3 : T 3 = .func (.func fu) #[] lb := hT (3, .func (.func fu) #[] lb) (by simp)
    rw [h0, h4, h3]
    clear h0 h3 h4 hT hSl
    simp only
    rw [muR_at hRd.rx]
    have HR := hide hRd
    have HP := hide hp
    have HL := hide hl
    clear START HRX HRD HF HP0 hRd hp hl pn ps
    by_cases x42 : xAt s p 42 = true
    · have e1 : cntI s p P = [(4, P)] := by unfold cntI; rw [if_pos x42]
      have e2 : cntN s p = p + 1 := by unfold cntN; rw [if_pos x42]
      have hlt := xAt_lt x42
      rw [e2] at hr
      rw [e1] at hRe
      have HD := hide hr
      have HE := hide hRe
      have HLT := hide hlt
      clear e1 e2 hr hRe hlt
      have M1 := hide trivial
      go_wp2_with (first
        | (go_at_call 28; refine Calls.mono (rdg_takes (by exact HR.out) (by have := HP.out; omega) HS.out _) ?_; rintro e x ⟨rfl, hRn⟩; replace HR := hide hRn; clear hRn; simp only [x42, Bool.false_eq_true, if_false, if_true] at HR ⊢)
        | (go_at_call 29; refine Calls.mono (rdg_put (by exact HR.out) 4 (.func (.func fu) #[] lb) P (.inr ⟨by decide, by simp⟩) (by have := HL.out; have := HP.out; have := HS1.out; simp; omega)) ?_; rintro e x ⟨rfl, vn, hRn⟩; replace HR := hide hRn; clear hRn))
      try go_step3
      first | refine goJ_then ?_ | refine goJ_plain ?_ | refine goJ_block ?_
      have hrx := HR.out.rx
      refine ⟨⟨p + 1, _, its ++ [(4, P)], r, sl_two rfl rfl rfl rfl, HR.out.less, HLT.out, by have := HL.out; simp; omega, HD.out, by rw [HE.out, rmap] <;> simp⟩, ?_⟩
      rw [muR_at hrx]
      have h9 := HLT.out
      have h8 := HP.out
      (try simp) <;> omega
    · have x42 : xAt s p 42 = false := by simpa using x42
      by_cases x43 : xAt s p 43 = true
      · have e1 : cntI s p P = [(2, P), (4, P)] := by unfold cntI; rw [if_neg (by rw [x42]; simp), if_pos x43]
        have e2 : cntN s p = p + 1 := by unfold cntN; rw [if_neg (by rw [x42]; simp), if_pos x43]
        have hlt := xAt_lt x43
        rw [e2] at hr
        rw [e1] at hRe
        have HD := hide hr
        have HE := hide hRe
        have HLT := hide hlt
        clear e1 e2 hr hRe hlt
        have M1 := hide trivial
        go_wp2_with (first
          | (go_at_call 28; refine Calls.mono (rdg_takes (by exact HR.out) (by have := HP.out; omega) HS.out _) ?_; rintro e x ⟨rfl, hRn⟩; replace HR := hide hRn; clear hRn; simp only [x42, x43, Bool.false_eq_true, if_false, if_true] at HR ⊢)
          | (go_at_call 29; clear M1; refine Calls.mono (rdg_put (by exact HR.out) 2 (.func (.func fu) #[] lb) P (.inr ⟨by decide, by simp⟩) (by have := HL.out; have := HP.out; have := HS1.out; simp; omega)) ?_; rintro e x ⟨rfl, vn, hRn⟩; replace HR := hide hRn; clear hRn)
          | (go_at_call 29; refine Calls.mono (rdg_put (by exact HR.out) 4 (.func (.func fu) #[] lb) P (.inr ⟨by decide, by simp⟩) (by have := HL.out; have := HP.out; have := HS1.out; simp; omega)) ?_; rintro e x ⟨rfl, vn, hRn⟩; replace HR := hide hRn; clear hRn))
        try go_step3
        first | refine goJ_then ?_ | refine goJ_plain ?_ | refine goJ_block ?_
        have hrx := HR.out.rx
        refine ⟨⟨p + 1, _, its ++ [(2, P)] ++ [(4, P)], r, sl_two rfl rfl rfl rfl, HR.out.less, HLT.out, by have := HL.out; simp; omega, HD.out, by rw [HE.out, rmap] <;> simp⟩, ?_⟩
        rw [muR_at hrx]
        have h9 := HLT.out
        have h8 := HP.out
        (try simp) <;> omega
      · have x43 : xAt s p 43 = false := by simpa using x43
        by_cases x63 : xAt s p 63 = true
        · have e1 : cntI s p P = [(3, P)] := by unfold cntI; rw [if_neg (by rw [x42]; simp), if_neg (by rw [x43]; simp), if_pos x63]
          have e2 : cntN s p = p + 1 := by unfold cntN; rw [if_neg (by rw [x42]; simp), if_neg (by rw [x43]; simp), if_pos x63]
          have hlt := xAt_lt x63
          rw [e2] at hr
          rw [e1] at hRe
          have HD := hide hr
          have HE := hide hRe
          have HLT := hide hlt
          clear e1 e2 hr hRe hlt
          have M1 := hide trivial
          go_wp2_with (first
            | (go_at_call 28; refine Calls.mono (rdg_takes (by exact HR.out) (by have := HP.out; omega) HS.out _) ?_; rintro e x ⟨rfl, hRn⟩; replace HR := hide hRn; clear hRn; simp only [x42, x43, x63, Bool.false_eq_true, if_false, if_true] at HR ⊢)
            | (go_at_call 29; refine Calls.mono (rdg_put (by exact HR.out) 3 (.func (.func fu) #[] lb) P (.inr ⟨by decide, by simp⟩) (by have := HL.out; have := HP.out; have := HS1.out; simp; omega)) ?_; rintro e x ⟨rfl, vn, hRn⟩; replace HR := hide hRn; clear hRn))
          try go_step3
          first | refine goJ_then ?_ | refine goJ_plain ?_ | refine goJ_block ?_
          have hrx := HR.out.rx
          refine ⟨⟨p + 1, _, its ++ [(3, P)], r, sl_two rfl rfl rfl rfl, HR.out.less, HLT.out, by have := HL.out; simp; omega, HD.out, by rw [HE.out, rmap] <;> simp⟩, ?_⟩
          rw [muR_at hrx]
          have h9 := HLT.out
          have h8 := HP.out
          (try simp) <;> omega
        · have x63 : xAt s p 63 = false := by simpa using x63
          have e1 : cntI s p P = [(2, P)] := by unfold cntI; rw [if_neg (by rw [x42]; simp), if_neg (by rw [x43]; simp), if_neg (by rw [x63]; simp)]
          have e2 : cntN s p = p := by unfold cntN; rw [if_neg (by rw [x42]; simp), if_neg (by rw [x43]; simp), if_neg (by rw [x63]; simp)]
          have hlt : True := trivial
          rw [e2] at hr
          rw [e1] at hRe
          have HD := hide hr
          have HE := hide hRe
          have HLT := hide hlt
          clear e1 e2 hr hRe hlt
          have M1 := hide trivial
          go_wp2_with (first
            | (go_at_call 28; refine Calls.mono (rdg_takes (by exact HR.out) (by have := HP.out; omega) HS.out _) ?_; rintro e x ⟨rfl, hRn⟩; replace HR := hide hRn; clear hRn; simp only [x42, x43, x63, Bool.false_eq_true, if_false, if_true] at HR ⊢)
            | (go_at_call 29; refine Calls.mono (rdg_put (by exact HR.out) 2 (.func (.func fu) #[] lb) P (.inr ⟨by decide, by simp⟩) (by have := HL.out; have := HP.out; have := HS1.out; simp; omega)) ?_; rintro e x ⟨rfl, vn, hRn⟩; replace HR := hide hRn; clear hRn))
          try go_step3
          first | refine goJ_then ?_ | refine goJ_plain ?_ | refine goJ_block ?_
          have hrx := HR.out.rx
          refine ⟨⟨p, _, its ++ [(2, P)], r, sl_two rfl rfl rfl rfl, HR.out.less, HP.out, by have := HL.out; simp; omega, HD.out, by rw [HE.out, rmap] <;> simp⟩, ?_⟩
          rw [muR_at hrx]
          have h9 := HLT.out
          have h8 := HP.out
          (try simp) <;> omega
  · -- set
    intro x wr hJ hcnt
    obtain ⟨p, p', v, its, hSl, hRd, hp, hl, hcs⟩ := hJ
    obtain ⟨T, rfl, hT⟩ := sl_get hSl
    have h0 : T 0 = .pointer (some ⟨b, 0, none⟩) := hT (0, .pointer (some ⟨b, 0, none⟩)) (by simp)
    have h4 : T 4 = .pointer (some ⟨w0.heap.size, 0, none⟩) := hT (4, .pointer (some ⟨w0.heap.size, 0, none⟩)) (by simp)
    rw [h0, h4]
    clear h0 h4 hT hSl
    simp only at hcnt ⊢
    have HCN := hide hcnt
    have hmu : muR s b (if (2 : Nat) = 0 then 0 else 1) wr = 4 * (s.size - p) + 1 := muR_at hRd.rx
    have HMU := hide hmu
    have HR := hide hRd
    have HP := hide hp
    have HL := hide hl
    clear START HRX HRD HF HP0 hRd hp hl pn ps hcnt hmu
    rcases hcs with ⟨P, r0, h1, h2, h3⟩ | ⟨h1, h2, h3⟩
    · have HC := hide h1
      have HD := hide h2
      have HE := hide h3
      clear h1 h2 h3
      go_wp2_with (go_at_call 34; refine Calls.mono (rdg_set (by exact HR.out) HC.out) ?_; rintro e x9 ⟨fu, lb, rfl, hRn⟩; replace HR := hide hRn; clear hRn)
      refine wp_label ?_
      rename_i K9 hK9
      have hrx := HR.out.rx
      have hq1 := HC.out.1
      have hq2 := HC.out.2.1
      have hq3 := HC.out.2.2.1 (by simp)
      refine hK9 _ _ (HCN.out _ _ ⟨p', v, its, P, r0, fu, lb, sl_three rfl rfl rfl rfl rfl, HR.out, hq2, by have := HL.out; omega, HD.out, HE.out⟩ ?_)
      rw [HMU.out, muR_at hrx]
      simp
      omega
    · have HC := hide h1
      have HE := hide h3
      subst h2
      clear h1 h3
      go_wp2_with (go_at_call 34; refine Calls.mono (rdg_noset (by exact HR.out) HC.out) ?_; rintro e x9 ⟨rfl, hRn⟩; replace HR := hide hRn; clear hRn)
      rw [jumpA_ret]
      go_ret
      exact ⟨by rw [HE.out]; rfl, v, HR.out.rx, HR.out.gr, fun its' h' => by rw [HE.out] at h'; simp at h'⟩
  · -- from the beginning
    intro hst
    have HST := hide hst
    clear hst pn ps
    have c0 := HRX.out.text
    go_upto_region 4 with (fail)
    have HF2 := hide HF.out
    by_cases hpf : Lib.hasPrefix s.data.toList (⟨#[92, 105]⟩ : ByteArray).data.toList = true
    · replace HF := HF.out
      rw [if_pos hpf] at HF
      obtain ⟨rfl, rfl, h2s⟩ := HF
      have c2 := HRX.out.fold
      have z2 := HRX.out.frz 2
      have gx := GrX.of_below (X := fun j => j = b) (Below.refl _ (w0.alloc (.cells #[.int .i32 0, .bool false] 79)))
      have HGX := hide gx
      clear gx
      generalize w0.alloc (.cells #[.int .i32 0, .bool false] 79) = X at *
      go_upto_region 6 with (go_at_call 26; refine (hasPrefix_any _ _ _).mono ?_; rintro e x ⟨rfl, hx⟩; obtain rfl : X = x := hx.symm; clear hx; rw [hpf])
      have r0 : Rx (X.setCell ⟨b, 2, none⟩ (.bool true)) b s 0 true (.slice none 0 0) := heap_setCell_same X b 2 _ _ (.bool true) HRX.out
      have g0 : GrX (fun j => j = b) X (X.setCell ⟨b, 2, none⟩ (.bool true)) := GrX.of_grown (grownX_set X b 2 _) (fun j hj => .inl (by cases hj; rfl))
      have HG0 := hide g0
      have HR0 := hide r0
      clear c0 c2 z2 g0 r0
      generalize X.setCell ⟨b, 2, none⟩ (.bool true) = X1 at *
      have z1 := HR0.out.frz 1
      have c1 := HR0.out.at
      go_wp2_with (fail)
      refine wp_label ?_
      rename_i K9 hK9
      have r1 := HR0.out.set 2
      have g1 := HG0.out.trans (GrX.of_grown (grownX_set X1 b 1 (.int .i64 2)) (fun j hj => .inl (by cases hj; rfl)))
      refine hK9 _ _ (HST.out _ _ ⟨2, .slice none 0 0, [], R, sl_two rfl rfl rfl rfl, START.out _ g1 r1, HP0.out, by simp, HRD.out, by cases R <;> simp⟩)
    · replace HF := HF.out
      rw [if_neg hpf] at HF
      have hpf : Lib.hasPrefix s.data.toList (⟨#[92, 105]⟩ : ByteArray).data.toList = false := by simpa using hpf
      obtain ⟨rfl, rfl⟩ := HF
      generalize w0.alloc (.cells #[.int .i32 0, .bool false] 79) = X at *
      go_wp2_with (go_at_call 26; refine (hasPrefix_any _ _ _).mono ?_; rintro e x ⟨rfl, hx⟩; obtain rfl : X = x := hx.symm; clear hx; rw [hpf])
      refine wp_label ?_
      rename_i K9 hK9
      refine hK9 _ _ (HST.out _ _ ⟨0, .slice none 0 0, [], R, sl_two rfl rfl rfl rfl, START.out _ (GrX.of_below (Below.refl _ _)) HRX.out, HP0.out, by simp, HRD.out, by cases R <;> simp⟩)
end Go.Proofs.Ytedfnppekikcpaa
namespace Go.Proofs.Ytedfnppekikcpaa
open Go.RowKit Go.Shelf
set_option linter.unusedVariables false
set_option linter.unusedSimpArgs false

/-- How a pattern's beginning is read: whether it is folded, and from where on. -/
def Fd (s : ByteArray) (f : Bool) (p0 : Nat) : Prop := if Lib.hasPrefix s.data.toList (⟨#[92, 105]⟩ : ByteArray).data.toList = true then f = true ∧ p0 = 2 ∧ 2 ≤ s.size else f = false ∧ p0 = 0
set_option maxRecDepth 100000 in
set_option maxHeartbeats 4000000 in
theorem xcompile_long (s : ByteArray) (w : World) (hs : 256 < s.size) (hs2 : s.size ≤ 140737488355328) :
    Calls Try.prog 5 #[.string s] w fun e w' => ∃ k, e = .returned (.tuple #[.pointer none, .iface 47 (.pointer (some ⟨k, 0, none⟩))]) ∧ w'.heap[k]? = some (.cells #[.int .i64 4, .int .i64 0] 50 (0, 0)) ∧ Below w.heap.size w w' := by
  have hsI : 256 < (s.size : Int) := by omega
  have hsJ : (s.size : Int) ≤ 140737488355328 := by omega
  go_enter Try.func5, Try.ntmps5
  go_wp2_with (fail)
  go_ret2
  exact ⟨w.heap.size, rfl, heap_alloc_new w _, (Below.refl _ _).alloc (Nat.le_refl _) _⟩
set_option maxRecDepth 100000 in
set_option maxHeartbeats 4000000 in
theorem xcompile_no (s : ByteArray) (w : World) (hs : s.size ≤ 256) (f : Bool) (p0 : Nat) (hf : Fd s f p0) (q : Nat) (hR : Rd s f p0 none q) :
    Calls Try.prog 5 #[.string s] w fun e w' => ∃ k, e = .returned (.tuple #[.pointer none, .iface 47 (.pointer (some ⟨k, 0, none⟩))]) ∧ w'.heap[k]? = some (.cells #[.int .i64 60, .int .i64 (q : Int)] 50 (0, 0)) ∧ Below w.heap.size w w' := by
  have hB : Below w.heap.size w (w.alloc (.cells #[.string s, .int .i64 0, .bool false, .slice none 0 0] 53)) := (Below.refl _ w).alloc (Nat.le_refl _) _
  have hr : Rx (w.alloc (.cells #[.string s, .int .i64 0, .bool false, .slice none 0 0] 53)) w.heap.size s 0 false (.slice none 0 0) := heap_alloc_new w _
  have kr := xread_any w.heap.size s _ hr (by omega) f p0 hf none q hR
  have KR := hide kr
  have HB := hide hB
  have hsI : (s.size : Int) ≤ 256 := by omega
  clear hr kr hB hR hf
  go_enter Try.func5, Try.ntmps5
  go_upto_region 4 with (fail)
  generalize w.alloc (.cells #[.string s, .int .i64 0, .bool false, .slice none 0 0] 53) = X at *
  go_upto_region 5 with (go_at_call 15; refine (KR.out).mono ?_; rintro e x ⟨rfl, v, hR, hG, _⟩; have HR := hide hR; have HG := hide hG; clear hR hG KR)
  have c1 := HR.out.at
  have hbx : Below w.heap.size w x := HB.out.trans ⟨HG.out.1, HG.out.2.1, HG.out.2.2.1, HG.out.2.2.2.1, fun k hk => HG.out.2.2.2.2 k (Nat.lt_of_lt_of_le hk HB.out.size) (Nat.ne_of_lt hk)⟩
  have HBX := hide hbx
  clear hbx HB HG HR
  go_region
  go_wp2_with (fail)
  go_ret2
  exact ⟨_, rfl, heap_alloc_new _ _, (HBX.out.trans (below_dwX _ x _)).alloc HBX.out.size _⟩
set_option maxRecDepth 100000 in
set_option maxHeartbeats 4000000 in
theorem xcompile_yes (s : ByteArray) (w : World) (hs : s.size ≤ 256) (f : Bool) (p0 : Nat) (hf : Fd s f p0) (its : List Kd) (q : Nat) (hR : Rd s f p0 (some its) q) :
    Calls Try.prog 5 #[.string s] w fun e w' => ∃ pb D, e = .returned (.tuple #[.pointer (some ⟨pb, 0, none⟩), .nilIface]) ∧ PatL D its s w' pb ∧ its.length ≤ 512 ∧ Below w.heap.size w w' := by
  have hB : Below w.heap.size w (w.alloc (.cells #[.string s, .int .i64 0, .bool false, .slice none 0 0] 53)) := (Below.refl _ w).alloc (Nat.le_refl _) _
  have hr : Rx (w.alloc (.cells #[.string s, .int .i64 0, .bool false, .slice none 0 0] 53)) w.heap.size s 0 false (.slice none 0 0) := heap_alloc_new w _
  have kr := xread_any w.heap.size s _ hr (by omega) f p0 hf (some its) q hR
  have KR := hide kr
  have HB := hide hB
  have hsI : (s.size : Int) ≤ 256 := by omega
  clear hr kr hB hR hf
  go_enter Try.func5, Try.ntmps5
  go_upto_region 4 with (fail)
  generalize w.alloc (.cells #[.string s, .int .i64 0, .bool false, .slice none 0 0] 53) = X at *
  go_wp2_with (go_at_call 15; refine (KR.out).mono ?_; rintro e x ⟨rfl, v, hR, hG, hI⟩; have HR := hide hR; have HLN := hide (hI its rfl).1; have HI := hide (hI its rfl).2; have HG := hide hG; clear hR hI hG KR)
  obtain ⟨va, vq, rfl⟩ := HI.out.shape
  have c3 := HR.out.items
  have mk : ∀ W : World, Below x.heap.size x W → (Below x.heap.size x W ∧ W.cell? ⟨w.heap.size, 3, none⟩ = some (.slice va its.length vq)) := fun W hW => ⟨hW, (HR.out.below hW).items⟩
  have MK := hide mk
  have kc := fun W => clone_any s W (by omega)
  have KC := hide kc
  clear mk kc c3
  refine wp_region_held_drew (S := fun W => Below x.heap.size x W ∧ W.cell? ⟨w.heap.size, 3, none⟩ = some (.slice va its.length vq)) (by kernel_rfl) (MK.out _ (Below.refl _ x).drew) (fun hS => ?_)
  refine wpAnyH_take (i := 0) (v := (.string s)) rfl (by kernel_rfl) (by kernel_rfl) (by kernel_rfl) (fun _ _ _ h => h) (Or.inl ⟨by kernel_rfl, fun w' hw => by (obtain ⟨_, z0⟩ := hw; go_simp)⟩) hS ?_
  refine wpAnyH_take (i := 2) (v := (.pointer (some ⟨w.heap.size, 3, none⟩))) rfl (by kernel_rfl) (by kernel_rfl) (by kernel_rfl) (fun _ _ _ h => h) (Or.inl ⟨by kernel_rfl, fun w' hw => by (obtain ⟨_, z0⟩ := hw; go_simp)⟩) hS ?_
  refine wpAnyH_take (i := 3) (v := (.slice va its.length vq)) rfl (by kernel_rfl) (by kernel_rfl) (by kernel_rfl) (fun _ _ _ h => h) (Or.inl ⟨by kernel_rfl, fun w' hw => by (obtain ⟨_, z0⟩ := hw; go_simp)⟩) hS ?_
  refine wpAnyH_ready (rs := [1]) (by kernel_rfl) (by simp) ?_
  refine AllReadyH.cons rfl (fun K hK => ?_) AllReadyH.nil
  rw [if_pos (by kernel_rfl)]
  go_simp
  go_wp2_with (go_at_call 16; refine (KC.out _).mono ?_; rintro e z ⟨rfl, hbz⟩; have HZ := hide (bseq (Below.refl _ x).drew hbz : Below x.heap.size x z); clear hbz)
  refine hK.out _ _ (MK.out _ HZ.out) (fun hS2 => ?_)
  clear hK K
  refine wpAnyH_take (i := 4) (v := (.agg #[.string s, .slice va its.length vq, .bool true])) rfl (by kernel_rfl) (by kernel_rfl) (by kernel_rfl) (fun _ _ _ h => h) (Or.inl ⟨by kernel_rfl, fun w' hw => by (obtain ⟨_, z0⟩ := hw; go_simp)⟩) hS2 ?_
  refine wpAnyH_ready (rs := [5]) (by kernel_rfl) (by simp) ?_
  refine AllReadyH.cons rfl (fun K hK => ?_) AllReadyH.nil
  rw [if_pos (by kernel_rfl)]
  go_simp
  refine hK.out _ _ (MK.out _ (HZ.out.alloc HZ.out.size _)) (fun hS3 => ?_)
  clear hK K
  refine wpAnyH_take (i := 6) (v := (.pointer (some ⟨z.heap.size, 0, none⟩))) rfl (by kernel_rfl) (by kernel_rfl) (by kernel_rfl) (fun _ _ _ h => h) (Or.inl ⟨by kernel_rfl, fun w' hw => by (obtain ⟨_, z0⟩ := hw; go_simp)⟩) hS3 ?_
  refine wpAnyH_take (i := 7) (v := .nilIface) rfl (by kernel_rfl) (by kernel_rfl) (by kernel_rfl) (fun _ _ _ h => h) (Or.inl ⟨by kernel_rfl, fun w' hw => by (obtain ⟨_, z0⟩ := hw; go_simp)⟩) hS3 ?_
  refine wpAnyH_done (by kernel_rfl) ?_ _
  simp only [Act.put, List.getElem_toArray, List.getElem_cons_zero, List.getElem_cons_succ, List.setIfInBounds_toArray, List.set_cons_zero, List.set_cons_succ]
  go_wp2_with (fail)
  go_ret2
  have hbx : Below w.heap.size w x := HB.out.trans ⟨HG.out.1, HG.out.2.1, HG.out.2.2.1, HG.out.2.2.2.1, fun k hk => HG.out.2.2.2.2 k (Nat.lt_of_lt_of_le hk HB.out.size) (Nat.ne_of_lt hk)⟩
  have hza : Below x.heap.size x (z.alloc (.cells #[.string s, .slice va its.length vq, .bool true] 55)) := HZ.out.alloc HZ.out.size _
  exact ⟨z.heap.size, _, rfl, ⟨_, heap_alloc_new z _, HI.out.keep (.of_below hza HI.out.1)⟩, by have := HLN.out; omega, hbx.trans (hza.mono hbx.size)⟩
end Go.Proofs.Ytedfnppekikcpaa
namespace Go.Proofs.Ytedfnppekikcpaa
open Go.RowKit Go.Shelf
set_option linter.unusedVariables false

set_option maxHeartbeats 1000000 in
theorem xcut_any (s : ByteArray) (m : Nat) (w : World) (hm : m ≤ 1048576) :
    Calls Try.prog 6 #[.string s, .int .i64 (m : Int)] w fun e w' => e = .returned (.string (s.extract 0 m)) ∧ w' = w := by
  have hmI : (m : Int) ≤ 1048576 := by omega
  by_cases h : m < s.size
  · have hI : (m : Int) < (s.size : Int) := by omega
    clear h
    go_enter Try.func6, Try.ntmps6
    go_wp2
    go_ret
    exact ⟨rfl, rfl⟩
  · have hI : (s.size : Int) ≤ (m : Int) := by omega
    have he : s.extract 0 m = s := by
      have : s.extract 0 m = s.extract 0 s.size := by
        ext1
        simp only [ByteArray.data_extract]
        rw [Array.extract_eq_self_of_le (by simpa using (show s.size ≤ m by omega)), Array.extract_eq_self_of_le (by simp)]
      rw [this]
      simp
    rw [he]
    clear h he
    go_enter Try.func6, Try.ntmps6
    go_wp2
    go_ret
    exact ⟨rfl, rfl⟩
end Go.Proofs.Ytedfnppekikcpaa
