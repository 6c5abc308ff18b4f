/- Package ulog: Records of a device that is only read. -/
import Derived.Test.YtgfgihpkbbjkfaaPArNM
import Derived.Test.YtgfgihpkbbjkfaaUhLM
import Derived.Test.YtgfgihpkbbjkfaaPSet
import Derived.Test.YtgfgihpkbbjkfaaQTwoM
import Derived.Test.YtgfgihpkbbjkfaaPFrm
namespace Go.Proofs.Ytgfgihpkbbjkfaa
open Go.RowKit Go.Shelf
set_option linter.unusedVariables false

/-- A list of what lines keep, handed in. -/
def KeepIn (w : World) (ka : Option Addr) (ck : Nat) (zs : List Int) : Prop := (∀ z ∈ zs, 0 ≤ z ∧ z ≤ 9223372036854775807) ∧ zs.length ≤ ck ∧ ((ka = none ∧ zs = [] ∧ ck = 0) ∨ ∃ kg c, ka = some ⟨kg, 0, none⟩ ∧ w.heap[kg]? = some (.cells c 3 (0, 0)) ∧ ∀ (i : Nat) (z : Int), zs[i]? = some z → c[i]? = some (.int .i64 z))
theorem KeepIn.keep {w w' : World} {ka : Option Addr} {ck : Nat} {zs : List Int} (h : KeepIn w ka ck zs) (hk : ∀ (g : Nat) (c : Array Value), w.heap[g]? = some (.cells c 3 (0, 0)) → w'.heap[g]? = w.heap[g]?) : KeepIn w' ka ck zs :=
  ⟨h.1, h.2.1, h.2.2.imp id (fun ⟨kg, c, h1, h2, h3⟩ => ⟨kg, c, h1, (hk kg c h2).trans h2, h3⟩)⟩
theorem KeepIn.below {w w' : World} {ka : Option Addr} {ck : Nat} {zs : List Int} (h : KeepIn w ka ck zs) (hB : Below w.heap.size w w') : KeepIn w' ka ck zs := h.keep (fun g c hg => hB.block g (lt_of_heap hg))
theorem KeepIn.ints {w : World} {ka : Option Addr} {ck : Nat} {zs : List Int} (h : KeepIn w ka ck zs) : IntsP w ka zs := by
  refine ⟨fun z hz => by have := h.1 z hz; omega, ?_⟩
  rcases h.2.2 with ⟨_, h2, _⟩ | ⟨kg, c, h1, h2, h3⟩
  · exact .inl h2
  · exact .inr ⟨kg, 0, h1, lt_of_heap h2, fun i z hz => by rw [Nat.zero_add, cell8 h2]; exact h3 i z hz⟩
def CloneR (B : Nat) (w' : World) (gp : Option Addr) (kp : List Nat) : Prop := (gp = none ∧ kp = []) ∨ ∃ gn c, gp = some ⟨gn, 0, none⟩ ∧ B ≤ gn ∧ w'.heap[gn]? = some (.cells c 3 (0, 0)) ∧ ∀ (j x : Nat), kp[j]? = some x → c[j]? = some (.int .i64 (x : Int))
def kpOf (N : Nat) (x : Nat × List Int) : Nat × List Nat := (x.1, (x.2.map Int.toNat).take (min x.2.length N))
theorem keep_cut {w : World} {ka : Option Addr} {ck nk m : Nat} {zs : List Int} (h : KeepIn w ka ck zs) (hl : zs.length = nk) (hm : m ≤ nk) (X : World) : (Instr.sliceAt 87 (.slice ka nk ck) none (some (.int .i64 (m : Int))) none).run Try.prog X = .ok (.slice ka m ck) X := by
  rcases h.2.2 with ⟨rfl, h2, rfl⟩ | ⟨kg, c, rfl, h2, h3⟩
  · have e1 : nk = 0 := by rw [← hl, h2]; rfl
    subst e1
    have e2 : m = 0 := by omega
    subst e2
    exact cut_nil X
  · exact cut_intsG ⟨kg, 0, none⟩ m nk ck hm (by have := h.2.1; omega) X
theorem keep_may {w : World} {ka : Option Addr} {ck nk : Nat} {zs : List Int} (h : KeepIn w ka ck zs) (hl : zs.length = nk) (h9 : nk ≤ 17592186043904) : Calls Try.prog 38 #[.slice ka nk ck] w fun e w' => e = .returned (.bool true) ∧ w' = w := by
  have k := pmayI ck nk h.ints hl h9
  have e : nonneg zs = true := by
    unfold nonneg
    exact List.all_eq_true.2 fun z hz => decide_eq_true (h.1 z hz).1
  rwa [e] at k
theorem keep_clone {w : World} {ka : Option Addr} {ck nk m : Nat} {zs : List Int} {kp : List Nat} (h : KeepIn w ka ck zs) (hl : zs.length = nk) (hm : m ≤ nk) (hm6 : m ≤ 65536) (hkp : kp = (zs.map Int.toNat).take m) : Calls Try.prog 39 #[.slice ka m ck] w fun e w' => ∃ gp cn, e = .returned (.slice gp m cn) ∧ CloneR w.heap.size w' gp kp ∧ Below w.heap.size w w' := by
  rcases h.2.2 with ⟨rfl, h2, rfl⟩ | ⟨kg, c, rfl, h2, h3⟩
  · have e1 : nk = 0 := by rw [← hl, h2]; rfl
    have e2 : m = 0 := by omega
    subst e2
    refine (pclone_nil w).mono ?_
    rintro e w' ⟨rfl, hB⟩
    exact ⟨none, 0, rfl, .inl ⟨rfl, by rw [hkp]; rfl⟩, hB⟩
  · have hkl : kp.length = m := by rw [hkp, List.length_take, List.length_map]; omega
    refine (pcloneG ⟨kg, 0, none⟩ m ck kp w hkl (fun j k hj => ?_) hm6).mono ?_
    · rw [hkp, List.getElem?_take] at hj
      split at hj
      · rw [List.getElem?_map] at hj
        obtain ⟨z, hz, rfl⟩ := Option.map_eq_some_iff.1 hj
        have h5 := (h.1 z (List.mem_of_getElem? hz)).1
        rw [Addr.add_mid, Nat.zero_add, cell8 h2, h3 j z hz]
        congr 2
        omega
      · cases hj
    · rintro e w' ⟨gn, cn, rfl, q1, ⟨c2, q2⟩, q3, q4⟩
      exact ⟨some ⟨gn, 0, none⟩, cn, rfl, .inr ⟨gn, c2, rfl, q1, q2, fun j x hj => by have := q3 j x hj; rw [cell8 q2] at this; exact this⟩, q4⟩
section
variable {w : World} {b : Nat} {L : Lay} {σ : St}
/-- One more loss waits. -/
theorem DevL.armedG {w' : World} {v8 kv : Value} {af : Nat} {kp : List Nat} {KN : Nat → Prop} {ks ys : List Value} (h : DevL w b L σ) (hks : ks.length = σ.arms.length) (hys : ys = (ks.zip σ.arms).flatMap armC) (hkk : ∀ (i : Nat) (k : Value) (a : Nat × List Nat), ks[i]? = some k → σ.arms[i]? = some a → KeepAt w L.KB k a.2)
    (hb : w'.heap[b]? = some (.cells (devC b { L with av := v8 } { σ with arms := σ.arms ++ [(af, kp)] }) 69 (0, 0))) (hrow : w'.ownsRow 0 89 2 v8 (σ.arms.length + 1) (ys ++ [.int .i64 (af : Int), kv]))
    (hkeep : KeepAt w' KN kv kp) (hgk : ∀ k, KN k → ∃ c, w'.heap[k]? = some (.cells c 3 (0, 0))) (hk : ∀ k, k < w.heap.size → k ≠ b → L.av.ownBlock ≠ some k → w'.heap[k]? = w.heap[k]?) :
    DevL w' b { L with av := v8, KB := fun k => L.KB k ∨ KN k } { σ with arms := σ.arms ++ [(af, kp)] } := by
  have hs : ∀ (k : Nat) (c : Array Value) t fr, w.heap[k]? = some (Obj.cells c t fr) → t ≠ 69 → t ≠ 89 → w'.heap[k]? = w.heap[k]? := fun k c t fr h1 h2 h3 => hk k (lt_of_heap h1) (ne_ty h1 h.dev h2) (fun e => by obtain ⟨c', hc'⟩ := h.av_row e; exact ne_ty h1 hc' h3 rfl)
  have hm : ∀ (k : Nat) es q, w.heap[k]? = some (Obj.map es q) → w'.heap[k]? = w.heap[k]? := fun k es q h1 => hk k (lt_of_heap h1) (ne_map h.dev h1).symm (fun e => by obtain ⟨c', hc'⟩ := h.av_row e; exact ne_map hc' h1 rfl)
  obtain ⟨e1, k1, hob⟩ := h.old.block
  obtain ⟨e2, k2, hfb⟩ := h.flm.block
  have hkb0 : ∀ k, L.KB k → w'.heap[k]? = w.heap[k]? := fun k hkb => by obtain ⟨c, hc⟩ := h.kbt k hkb; exact hs _ _ _ _ hc (by decide) (by decide)
  have hz : (ks ++ [kv]).zip (σ.arms ++ [(af, kp)]) = ks.zip σ.arms ++ [(kv, (af, kp))] := by rw [List.zip_append hks]; rfl
  refine ⟨hb, (hs _ _ _ _ h.seen (by decide) (by decide)).trans h.seen, h.old.of_block (hm _ _ _ hob), h.flm.of_block (hm _ _ _ hfb),
    fun i hi => (h.pasts i hi).keep (hs _ _ _ _ (h.pasts i hi).1 (by decide) (by decide)) (fun g' hg' => ?_), h.pne, h.rne, h.mne, ⟨ks ++ [kv], by simp [hks], ?_, fun i k a h1 h2 => ?_⟩, fun k hkb => ?_⟩
  · obtain ⟨c, hc⟩ := (h.pasts i hi).row hg'
    exact hs _ _ _ _ hc (by decide) (by decide)
  · rw [hz, List.flatMap_append, List.length_append, ← hys]
    exact hrow
  · by_cases hi : i < ks.length
    · rw [List.getElem?_append_left hi] at h1
      rw [List.getElem?_append_left (by omega)] at h2
      obtain ⟨p, c, e, h5⟩ := hkk i k a h1 h2
      refine ⟨p, c, e, h5.imp id ?_⟩
      rintro ⟨g, hp, hg, hc⟩
      exact ⟨g, hp, .inl hg, fun i x hx => (World.cell?_of_block (hkb0 g hg)).trans (hc i x hx)⟩
    · rw [List.getElem?_append_right (by omega)] at h1 h2
      have e0 : i - ks.length = 0 := by have := (List.getElem?_eq_some_iff.1 h1).1; simp at this; omega
      rw [e0] at h1
      rw [← hks, e0] at h2
      cases h1
      cases h2
      obtain ⟨p, c, e, h5⟩ := hkeep
      exact ⟨p, c, e, h5.imp id (fun ⟨g, hp, hg, hc⟩ => ⟨g, hp, .inr hg, hc⟩)⟩
  · rcases hkb with hkb | hkb
    · obtain ⟨c, hc⟩ := h.kbt k hkb
      exact ⟨c, (hkb0 k hkb).trans hc⟩
    · exact hgk k hkb
theorem index_armG (g i len cap : Nat) (hi : i < len) (w : World) : (Instr.indexAt 24 (.slice (some ⟨g, 0, none⟩) len cap) (.int .i64 (i : Int))).run Try.prog w = .ok (.pointer (some ⟨g, i * 2, none⟩)) w := by
  have h := index_at (t := 24) (e := 89) (sz := 2) armSlice (by kernel_rfl) g 0 i len cap hi w
  rwa [Nat.zero_add] at h
/-- Losses that are handed in. -/
def ArmsIn (w : World) (L : Lay) (aa : Option Addr) (ar : List (Nat × List Int)) : Prop := ∀ (i : Nat) (x : Nat × List Int), ar[i]? = some x → ∃ ga cur ka ck, aa = some ⟨ga, 0, none⟩ ∧ w.heap[ga]? = some (.cells cur 89 (0, 0)) ∧ L.av.ownBlock ≠ some ga ∧ cur[i * 2]? = some (.int .i64 (x.1 : Int)) ∧ cur[i * 2 + 1]? = some (.slice ka x.2.length ck) ∧ 1 ≤ x.1 ∧ x.2.length ≤ 17592186043904 ∧ KeepIn w ka ck x.2
set_option maxRecDepth 100000 in
set_option maxHeartbeats 1000000 in
theorem parm_list {n ca : Nat} {aa : Option Addr} {ar : List (Nat × List Int)} (h : DevL w b L σ) (hok : σ.Ok) (ho : σ.off = false) (harm : σ.arms = []) (hn : ar.length = n) (hn6 : n ≤ 64) (hin : ArmsIn w L aa ar) :
    Calls Try.prog 13 #[.pointer (some ⟨b, 0, none⟩), .slice aa n ca] w fun e w' => e = .returned (.int .i64 0) ∧ ∃ L', DevL w' b L' { σ with arms := ar.map (kpOf σ.n) } ∧ (∀ k, Foot b L' { σ with arms := ar.map (kpOf σ.n) } k → Foot b L σ k ∨ w.heap.size ≤ k) ∧ Gr (Foot b L σ) w w' ∧ L'.N ≤ L.N := by
  have hmx := hok.max
  have ks := pstate_any h
  rw [ho] at ks
  simp only [Bool.false_eq_true, if_false] at ks
  obtain ⟨ia, hia, hiz, his, hib⟩ := infoArm2
  have hav0 : w.ownsRow 0 89 2 L.av 0 [] := by
    obtain ⟨ks', hl', ho', _⟩ := h.arms
    rw [harm] at hl' ho'
    have : ks' = [] := List.eq_nil_of_length_eq_zero (by simpa using hl')
    subst this
    exact ho'
  obtain ⟨avp, avc, hava⟩ := own_slice hav0
  have fx : ∀ W : World, Below w.heap.size w W → W.cell? ⟨b, 5, none⟩ = some L.av ∧ W.cell? ⟨b, 1, none⟩ = some (.slice (some ⟨L.sb, 0, none⟩) σ.n L.cp) := fun W hB => by
    have e2 := (hB.block b h.lt).trans h.dev
    exact ⟨cell8 e2 5, cell8 e2 1⟩
  have HD := hide h
  have HARM := hide harm
  have HAVA := hide hava
  have KS := hide ks
  have FX := hide fx
  have HIN := hide hin
  have HN := hide hn
  have nI : ¬ (64 : Int) < (n : Int) := by omega
  have nI2 : ¬ (64 : Int) - 0 < (n : Int) := by omega
  clear h ks fx hok ho harm hav0 hava hin hn
  go_enter Try.func13, Try.ntmps13
  go_wp2_with (go_at_call 37; refine (KS.out).mono ?_; rintro e w' ⟨rfl, hw⟩; obtain rfl := hw.symm)
  go_loopw [18] (fun iv wr => ∃ i : Nat, iv = .int .i64 (i : Int) ∧ i ≤ n ∧ Below w.heap.size w wr) (fun iv _ => (n - (intOf iv).toNat))
  case atStart => exact ⟨0, rfl, Nat.zero_le _, Below.refl _ _⟩
  case round =>
    obtain ⟨i, rfl, hi, hB⟩ := hrel
    by_cases hlt : i < n
    · have iI : (i : Int) < (n : Int) := by omega
      obtain ⟨x, hx⟩ : ∃ x, ar[i]? = some x := ⟨_, List.getElem?_eq_getElem (by rw [HN.out]; exact hlt)⟩
      obtain ⟨ga, cur, ka, ck, rfl, hga, _, hc0, hc1, haf, hk9, hki⟩ := HIN.out i x hx
      obtain ⟨af, zs⟩ := x
      simp only at hc0 hc1 haf hk9 hki
      have e1 := (hB.block ga (lt_of_heap hga)).trans hga
      have f0 : wr.cell? ⟨ga, i * 2, none⟩ = some (.int .i64 (af : Int)) := (cell8 e1 _).trans hc0
      have f1 : wr.cell? ⟨ga, i * 2 + 1, none⟩ = some (.slice ka zs.length ck) := (cell8 e1 _).trans hc1
      have ix := fun Y => index_armG ga i n ca hlt Y
      have hB1 : Below w.heap.size w (wr.alloc (.cells #[.int .i64 (af : Int), .slice ka zs.length ck] 89)) := hB.alloc hB.size _
      have HB1 := hide hB1
      have KM := hide (keep_may (hki.below hB1) rfl hk9)
      have afI : ¬ (af : Int) < 1 := by omega
      generalize zs.length = nk at *
      clear hB hB1 hc0 hc1 hga e1 hx
      go_wp2_with (go_at_call 38; refine (KM.out).mono ?_; rintro e w' ⟨rfl, hw⟩; obtain rfl := hw.symm)
      go_roundw
      case rel => exact ⟨i + 1, int_congrP (by omega), by omega, HB1.out⟩
      case measure => simp [intOf]; omega
    · have iI : ¬ (i : Int) < (n : Int) := by omega
      obtain ⟨f5, f6⟩ := FX.out wr hB
      rw [HAVA.out] at f5
      have HB := hide hB
      clear hB
      go_wp2_with (fail)
      go_loopw [43] (fun iv wx => ∃ (j : Nat) (Lj : Lay), iv = .int .i64 (j : Int) ∧ j ≤ n ∧ DevL wx b Lj { σ with arms := (ar.take j).map (kpOf σ.n) } ∧ (∀ k, Foot b Lj { σ with arms := (ar.take j).map (kpOf σ.n) } k → Foot b L σ k ∨ w.heap.size ≤ k) ∧ Gr (fun k => k = b ∨ L.av.ownBlock = some k) w wx ∧ (∀ g, Lj.av.ownBlock = some g → L.av.ownBlock = some g ∨ w.heap.size ≤ g) ∧ Lj.N ≤ L.N) (fun iv _ => (n - (intOf iv).toNat))
      case atStart =>
        refine ⟨0, L, rfl, Nat.zero_le _, ?_, fun k hk => .inl hk, Gr.of_below HB.out, fun g hg => .inl hg, Nat.le_refl _⟩
        have e : ({ σ with arms := (ar.take 0).map (kpOf σ.n) } : St) = σ := by
          have := HARM.out
          cases σ
          simp at this
          subst this
          rfl
        rw [e]
        exact HD.out.below HB.out
      case round =>
        obtain ⟨j, Lj, rfl, hj, hd, hft, hgr, havj, hNL⟩ := hrel
        by_cases hlt2 : j < n
        · have jI : (j : Int) < (n : Int) := by omega
          obtain ⟨x, hx⟩ : ∃ x, ar[j]? = some x := ⟨_, List.getElem?_eq_getElem (by rw [HN.out]; exact hlt2)⟩
          obtain ⟨ga, cur, ka, ck, rfl, hga, hgav, hc0, hc1, haf, hk9, hki⟩ := HIN.out j x hx
          have htk : (ar.take (j + 1)).map (kpOf σ.n) = (ar.take j).map (kpOf σ.n) ++ [kpOf σ.n x] := by rw [List.take_add_one, hx]; simp
          obtain ⟨af, zs⟩ := x
          simp only at hc0 hc1 haf hk9 hki
          have e1 : wr.heap[ga]? = some (.cells cur 89 (0, 0)) := hgr.keep hga (fun e => e.elim (fun e => ne_ty hga HD.out.dev (by decide) e) hgav)
          have f0 : wr.cell? ⟨ga, j * 2, none⟩ = some (.int .i64 (af : Int)) := (cell8 e1 _).trans hc0
          have f1 : wr.cell? ⟨ga, j * 2 + 1, none⟩ = some (.slice ka zs.length ck) := (cell8 e1 _).trans hc1
          have ix := fun Y => index_armG ga j n ca hlt2 Y
          have hkw : KeepIn wr ka ck zs := hki.keep (fun g c hg => hgr.block (lt_of_heap hg) (fun e => e.elim (fun e => ne_ty hg HD.out.dev (by decide) e) (fun e => by obtain ⟨c', hc'⟩ := HD.out.av_row e; exact ne_ty hg hc' (by decide) rfl)))
          obtain ⟨m, hm⟩ : ∃ m, m = min zs.length σ.n := ⟨_, rfl⟩
          obtain ⟨kp, hkp⟩ : ∃ kp, kp = (zs.map Int.toNat).take m := ⟨_, rfl⟩
          have hkx : kpOf σ.n (af, zs) = (af, kp) := by unfold kpOf; rw [hkp, hm]
          rw [hkx] at htk
          have hkl : kp.length = m := by rw [hkp, List.length_take, List.length_map]; omega
          have hmk : m ≤ zs.length := by omega
          have cutk := fun X => keep_cut hkw rfl hmk X
          have kc : ∀ W : World, Below wr.heap.size wr W → Calls Try.prog 39 #[.slice ka m ck] W fun e w' => ∃ gp cn, e = .returned (.slice gp m cn) ∧ CloneR W.heap.size w' gp kp ∧ Below W.heap.size W w' := fun W hB => keep_clone (hkw.below hB) rfl hmk (by omega) hkp
          have HMI := hide (show (m : Int) = min (zs.length : Int) (σ.n : Int) by omega)
          generalize zs.length = nk at *
          have hB1 : Below wr.heap.size wr (wr.alloc (.cells #[.int .i64 (af : Int), .slice ka nk ck] 89)) := (Below.refl _ wr).alloc (Nat.le_refl _) _
          have g6 : (wr.alloc (.cells #[.int .i64 (af : Int), .slice ka nk ck] 89)).cell? ⟨b, 1, none⟩ = some (.slice (some ⟨Lj.sb, 0, none⟩) σ.n Lj.cp) := cell8 ((hB1.block b hd.lt).trans hd.dev) 1
          obtain ⟨ks2, hks2, hrow2, hkk2⟩ := hd.arms
          obtain ⟨σj, hσj⟩ : ∃ σj : St, ({ σ with arms := (ar.take j).map (kpOf σ.n) } : St) = σj := ⟨_, rfl⟩
          have hσa : σj.arms = (ar.take j).map (kpOf σ.n) := by rw [← hσj]
          have hσn : σj.n = σ.n := by rw [← hσj]
          have hjl : σj.arms.length = j := by rw [hσa, List.length_map, List.length_take, HN.out]; omega
          rw [hσj] at hd hft
          rw [← hσa] at hks2 hrow2 hkk2
          rw [hjl] at hrow2
          obtain ⟨ys, hys⟩ : ∃ ys, ys = (ks2.zip σj.arms).flatMap armC := ⟨_, rfl⟩
          rw [← hys] at hrow2
          obtain ⟨avq, avd, hvq⟩ := own_slice hrow2
          have f5x : wr.cell? ⟨b, 5, none⟩ = some Lj.av := cell8 hd.dev 5
          have HAV0 := hide hrow2
          have HDJ := hide hd
          have HFT := hide hft
          have HGR := hide hgr
          have HAVJ := hide havj
          have HKS2 := hide (And.intro hks2 (And.intro hys hkk2))
          have HSJ := hide (And.intro hσj (And.intro hσn hjl))
          have HTK := hide htk
          have HKL := hide hkl
          have KC := hide kc
          have CUT := hide cutk
          have ha1 := heapNew wr (.cells #[.int .i64 (af : Int), .slice ka nk ck] 89)
          have s15 : (wr.alloc (.cells #[.int .i64 (af : Int), .slice ka nk ck] 89)).drew.cell? ⟨wr.heap.size, 1, none⟩ = some (.slice ka nk ck) ∧ (wr.alloc (.cells #[.int .i64 (af : Int), .slice ka nk ck] 89)).drew.cell? ⟨b, 1, none⟩ = some (.slice (some ⟨Lj.sb, 0, none⟩) σ.n Lj.cp) := ⟨cell8 (w := (wr.alloc (.cells #[.int .i64 (af : Int), .slice ka nk ck] 89)).drew) ha1 1, g6⟩
          have S15 := hide s15
          have HB1 := hide hB1
          have HA1 := hide ha1
          have afI : ¬ (af : Int) < 1 := by omega
          clear hd hft hgr havj hks2 hrow2 hkk2 hys hσj hσn hjl hσa htk hkl kc cutk ha1 s15 g6 hB1 f5x hkx hkp hm hkw e1 hga hgav hc0 hc1 hki hx hmk hvq
          go_wp2_with (fail)
          refine wp_region_held_drew (S := fun Y => Y.cell? ⟨wr.heap.size, 1, none⟩ = some (.slice ka nk ck) ∧ Y.cell? ⟨b, 1, none⟩ = some (.slice (some ⟨Lj.sb, 0, none⟩) σ.n Lj.cp)) (by kernel_rfl) S15.out (fun hS => ?_)
          refine wpAnyH_take (i := 0) (v := (.pointer (some ⟨wr.heap.size, 1, none⟩))) rfl (by kernel_rfl) (by kernel_rfl) (by kernel_rfl) (fun _ _ _ h => h) (Or.inl ⟨by kernel_rfl, fun w' hw => by (go_simp)⟩) hS ?_
          refine wpAnyH_take (i := 1) (v := (.slice ka nk ck)) rfl (by kernel_rfl) (by kernel_rfl) (by kernel_rfl) (fun _ _ _ h => h) (Or.inl ⟨by kernel_rfl, fun w' hw => by (obtain ⟨z0, z1⟩ := hw; go_simp)⟩) hS ?_
          refine wpAnyH_take (i := 2) (v := (.pointer (some ⟨wr.heap.size, 1, none⟩))) rfl (by kernel_rfl) (by kernel_rfl) (by kernel_rfl) (fun _ _ _ h => h) (Or.inl ⟨by kernel_rfl, fun w' hw => by (go_simp)⟩) hS ?_
          refine wpAnyH_take (i := 3) (v := (.slice ka nk ck)) rfl (by kernel_rfl) (by kernel_rfl) (by kernel_rfl) (fun _ _ _ h => h) (Or.inl ⟨by kernel_rfl, fun w' hw => by (obtain ⟨z0, z1⟩ := hw; go_simp)⟩) hS ?_
          refine wpAnyH_take (i := 4) (v := (.int .i64 (nk : Int))) rfl (by kernel_rfl) (by kernel_rfl) (by kernel_rfl) (fun _ _ _ h => h) (Or.inl ⟨by kernel_rfl, fun w' hw => by (go_simp)⟩) hS ?_
          refine wpAnyH_take (i := 5) (v := (.pointer (some ⟨b, 0, none⟩))) rfl (by kernel_rfl) (by kernel_rfl) (by kernel_rfl) (fun _ _ _ h => h) (Or.inl ⟨by kernel_rfl, fun w' hw => by (go_simp)⟩) hS ?_
          refine wpAnyH_take (i := 6) (v := (.pointer (some ⟨b, 0, none⟩))) rfl (by kernel_rfl) (by kernel_rfl) (by kernel_rfl) (fun _ _ _ h => h) (Or.inl ⟨by kernel_rfl, fun w' hw => by (go_simp)⟩) hS ?_
          refine wpAnyH_take (i := 7) (v := (.pointer (some ⟨b, 1, none⟩))) rfl (by kernel_rfl) (by kernel_rfl) (by kernel_rfl) (fun _ _ _ h => h) (Or.inl ⟨by kernel_rfl, fun w' hw => by (go_simp)⟩) hS ?_
          refine wpAnyH_take (i := 8) (v := (.slice (some ⟨Lj.sb, 0, none⟩) σ.n Lj.cp)) rfl (by kernel_rfl) (by kernel_rfl) (by kernel_rfl) (fun _ _ _ h => h) (Or.inl ⟨by kernel_rfl, fun w' hw => by (obtain ⟨z0, z1⟩ := hw; go_simp)⟩) hS ?_
          refine wpAnyH_take (i := 9) (v := (.int .i64 (σ.n : Int))) rfl (by kernel_rfl) (by kernel_rfl) (by kernel_rfl) (fun _ _ _ h => h) (Or.inl ⟨by kernel_rfl, fun w' hw => by (go_simp)⟩) hS ?_
          refine wpAnyH_take (i := 10) (v := (.int .i64 (m : Int))) rfl (by kernel_rfl) (by kernel_rfl) (by kernel_rfl) (fun _ _ _ h => h) (Or.inl ⟨by kernel_rfl, fun w' hw => by (have mI := HMI.out; go_simp; omega)⟩) hS ?_
          refine wpAnyH_take (i := 11) (v := (.slice ka m ck)) rfl (by kernel_rfl) (by kernel_rfl) (by kernel_rfl) (fun _ _ _ h => h) (Or.inl ⟨by kernel_rfl, fun w' hw => by (have e := CUT.out w'; go_simp)⟩) hS ?_
          refine wpAnyH_take (i := 12) (v := (.slice ka m ck)) rfl (by kernel_rfl) (by kernel_rfl) (by kernel_rfl) (fun _ _ _ h => h) (Or.inl ⟨by kernel_rfl, fun w' hw => by (go_simp)⟩) hS ?_
          refine wpAnyH_done (by kernel_rfl) ?_ _
          simp only [Act.put, List.getElem_toArray, List.getElem_cons_zero, List.getElem_cons_succ, List.setIfInBounds_toArray, List.set_cons_zero, List.set_cons_succ]
          go_wp2_with (fail)
          have hw0 : Below wr.heap.size wr (wr.alloc (.cells #[.int .i64 (af : Int), .slice ka nk ck] 89)).drew := HB1.out.drew
          have ha0 : (wr.alloc (.cells #[.int .i64 (af : Int), .slice ka nk ck] 89)).drew.heap[wr.heap.size]? = some (.cells #[.int .i64 (af : Int), .slice ka nk ck] 89 (0, 0)) := HA1.out
          have hsz0 : wr.heap.size < (wr.alloc (.cells #[.int .i64 (af : Int), .slice ka nk ck] 89)).drew.heap.size := lt_of_heap ha0
          generalize (wr.alloc (.cells #[.int .i64 (af : Int), .slice ka nk ck] 89)).drew = W0 at *
          have hb0 := (hw0.block b HDJ.out.lt).trans HDJ.out.dev
          have s16 : W0.drew.cell? ⟨b, 5, none⟩ = some Lj.av ∧ W0.drew.cell? ⟨wr.heap.size, 0, none⟩ = some (.int .i64 (af : Int)) := ⟨cell8 (w := W0.drew) hb0 5, cell8 (w := W0.drew) ha0 0⟩
          have S16 := hide s16
          have HW0 := hide (hw0.drew : Below wr.heap.size wr W0.drew)
          have HB0 := hide hb0
          have HA0 := hide ha0
          have arm5 : ∀ (W4 : World) (gp : Option Addr) (cn : Nat), Below W0.drew.heap.size W0.drew W4 → ((W4.alloc (.cells #[.int .i64 (af : Int), .slice gp m cn] 89)).cell? ⟨b, 5, none⟩ = some Lj.av ∧ (W4.alloc (.cells #[.int .i64 (af : Int), .slice gp m cn] 89)).cell? ⟨wr.heap.size, 0, none⟩ = some (.int .i64 (af : Int))) ∧ (W4.alloc (.cells #[.int .i64 (af : Int), .slice gp m cn] 89)).ownsRow 0 89 2 Lj.av j ys ∧ (∀ (j : Nat) (u : Value), ([.int .i64 (af : Int), .slice gp m cn] : List Value)[j]? = some u → (W4.alloc (.cells #[.int .i64 (af : Int), .slice gp m cn] 89)).cell? ((⟨W4.heap.size, 0, none⟩ : Addr).add j) = some u) ∧ (∀ W8 : World, (W4.alloc (.cells #[.int .i64 (af : Int), .slice gp m cn] 89)).grownBy W8 Lj.av.ownBlock → W8.cell? ⟨b, 5, none⟩ = some Lj.av ∧ W8.frozen? ⟨b, 5, none⟩ = false ∧ W8.cell? ⟨wr.heap.size, 0, none⟩ = some (.int .i64 (af : Int))) := fun W4 gp cn hB4 => by
            have e4 : W0.drew.heap.size ≤ W4.heap.size := hB4.size
            have hB5 : Below W0.drew.heap.size W0.drew (W4.alloc (.cells #[.int .i64 (af : Int), .slice gp m cn] 89)) := hB4.alloc e4 _
            have x1 : (W4.alloc (.cells #[.int .i64 (af : Int), .slice gp m cn] 89)).heap[b]? = _ := (hB5.block b (lt_of_heap hb0)).trans hb0
            have x2 : (W4.alloc (.cells #[.int .i64 (af : Int), .slice gp m cn] 89)).heap[wr.heap.size]? = _ := (hB5.block _ (lt_of_heap ha0)).trans ha0
            have hlt : ∀ g, Lj.av.ownBlock = some g → g < wr.heap.size := fun g hg => by obtain ⟨c', hc'⟩ := own_type HAV0.out hg; exact lt_of_heap hc'
            refine ⟨⟨cell8 x1 5, cell8 x2 0⟩, ownsRow_of_block HAV0.out (fun g hg => (hB5.block g (Nat.lt_of_lt_of_le (hlt g hg) hw0.size)).trans (hw0.block g (hlt g hg))), fun j u hu => ?_, fun W8 hg8 => ?_⟩
            · have h := range_all (heapNew W4 (.cells ([.int .i64 (af : Int), .slice gp m cn] : List Value).toArray 89)) j u hu
              rw [Addr.add_mid]; exact h
            · have y1 := (hg8.block b (lt_of_heap x1) (fun e => by obtain ⟨c', hc'⟩ := own_type HAV0.out e.symm; exact ne_ty hc' HDJ.out.dev (by decide) rfl)).trans x1
              have y2 := (hg8.block _ (lt_of_heap x2) (fun e => by have := hlt _ e.symm; omega)).trans x2
              exact ⟨cell8 y1 5, froz8 y1 5, cell8 y2 0⟩
          have ARM5 := hide arm5
          clear hw0 hb0 ha0 s16 arm5 HA1 HB1 S15
          refine wp_region_early 14 (fun Y => Y.cell? ⟨b, 5, none⟩ = some Lj.av ∧ Y.cell? ⟨wr.heap.size, 0, none⟩ = some (.int .i64 (af : Int))) (by kernel_rfl) S16.out (fun hS => ?_)
          refine wpAnyE_take (i := 0) (v := (.pointer (some ⟨b, 0, none⟩))) rfl (by kernel_rfl) (by kernel_rfl) (by kernel_rfl) (by kernel_rfl) (fun _ _ _ h => h) (Or.inl ⟨by kernel_rfl, fun w' hw => by (go_simp)⟩) hS ?_
          refine wpAnyE_take (i := 1) (v := (.pointer (some ⟨b, 0, none⟩))) rfl (by kernel_rfl) (by kernel_rfl) (by kernel_rfl) (by kernel_rfl) (fun _ _ _ h => h) (Or.inl ⟨by kernel_rfl, fun w' hw => by (go_simp)⟩) hS ?_
          refine wpAnyE_take (i := 2) (v := (.pointer (some ⟨b, 0, none⟩))) rfl (by kernel_rfl) (by kernel_rfl) (by kernel_rfl) (by kernel_rfl) (fun _ _ _ h => h) (Or.inl ⟨by kernel_rfl, fun w' hw => by (go_simp)⟩) hS ?_
          refine wpAnyE_take (i := 3) (v := (.pointer (some ⟨b, 5, none⟩))) rfl (by kernel_rfl) (by kernel_rfl) (by kernel_rfl) (by kernel_rfl) (fun _ _ _ h => h) (Or.inl ⟨by kernel_rfl, fun w' hw => by (go_simp)⟩) hS ?_
          refine wpAnyE_take (i := 4) (v := Lj.av) rfl (by kernel_rfl) (by kernel_rfl) (by kernel_rfl) (by kernel_rfl) (fun _ _ _ h => h) (Or.inl ⟨by kernel_rfl, fun w' hw => by (obtain ⟨z0, z1⟩ := hw; go_simp)⟩) hS ?_
          refine wpAnyE_take (i := 5) (v := (.pointer (some ⟨wr.heap.size, 0, none⟩))) rfl (by kernel_rfl) (by kernel_rfl) (by kernel_rfl) (by kernel_rfl) (fun _ _ _ h => h) (Or.inl ⟨by kernel_rfl, fun w' hw => by (go_simp)⟩) hS ?_
          refine wpAnyE_take (i := 6) (v := (.int .i64 (af : Int))) rfl (by kernel_rfl) (by kernel_rfl) (by kernel_rfl) (by kernel_rfl) (fun _ _ _ h => h) (Or.inl ⟨by kernel_rfl, fun w' hw => by (obtain ⟨z0, z1⟩ := hw; go_simp)⟩) hS ?_
          refine wpAnyE_take (i := 7) (v := (.slice ka m ck)) rfl (by kernel_rfl) (by kernel_rfl) (by kernel_rfl) (by kernel_rfl) (fun _ _ _ h => h) (Or.inl ⟨by kernel_rfl, fun w' hw => by (go_simp)⟩) hS ?_
          refine wpAnyE_do (i := 8) (by kernel_rfl) rfl (by kernel_rfl) (fun K hK => ?_)
          go_wp2_with (go_at_call 39; refine (KC.out _ ?hx).mono ?_; (case hx => exact HW0.out); rintro e W4 ⟨gp, cn, rfl, hcr, hB4⟩; have HCR := hide hcr; have HB4 := hide hB4; clear hcr hB4)
          have s4 : W4.cell? ⟨b, 5, none⟩ = some Lj.av ∧ W4.cell? ⟨wr.heap.size, 0, none⟩ = some (.int .i64 (af : Int)) := ⟨cell8 ((HB4.out.block b (lt_of_heap HB0.out)).trans HB0.out) 5, cell8 ((HB4.out.block _ (lt_of_heap HA0.out)).trans HA0.out) 0⟩
          refine hK.out _ _ (fun _ => s4) ?_
          clear hK K
          refine wpAnyE_take (i := 9) (v := (.agg #[.int .i64 (af : Int), .slice gp m cn])) rfl (by kernel_rfl) (by kernel_rfl) (by kernel_rfl) (by kernel_rfl) (fun _ _ _ h => h) (Or.inl ⟨by kernel_rfl, fun w' hw => by (go_simp)⟩) s4 ?_
          refine wpAnyE_do (i := 10) (by kernel_rfl) rfl (by kernel_rfl) (fun K hK => ?_)
          refine wp_slice_arm (.tmp 68) (by kernel_rfl) [.int .i64 (af : Int), .slice gp m cn] (by kernel_rfl) (by simp) ?_
          obtain ⟨s5, qo, qc, q8⟩ := ARM5.out W4 gp cn HB4.out
          have QO := hide qo
          have QC := hide qc
          have Q8 := hide q8
          clear qo qc q8
          refine hK.out _ _ (fun _ => s5) ?_
          clear hK K
          refine wpAnyE_do (i := 11) (by kernel_rfl) rfl (by kernel_rfl) (fun K hK => ?_)
          refine wp_append_at (.tmp 63) (.tmp 69) 24 (by kernel_rfl) 0 89 ia (.agg #[.int .i64 0, .slice none 0 0]) 2 32 armSlice hia hiz his hib (by rfl) (by decide) Lj.av j ys (by kernel_rfl) QO.out ⟨W4.heap.size, 0, none⟩ 1 1 [.int .i64 (af : Int), .slice gp m cn] (by kernel_rfl) (by simp) QC.out (by simp [Value.oneCell']) (by unfold maxLen; omega) (by omega) (Nat.zero_le _) ?_
          intro v8 W8 ho8 hg8 _ hl8
          obtain ⟨r0, rf, r1⟩ := Q8.out W8 hg8
          obtain ⟨a8, c8, rfl⟩ := own_slice ho8
          have HO8 := hide ho8
          have HG8 := hide hg8
          have HL8 := hide hl8
          clear ho8 hg8 hl8
          refine hK.out _ _ (fun _ => ⟨r0, r1⟩) ?_
          clear hK K
          refine wpAnyE_do (i := 12) (by kernel_rfl) rfl (by kernel_rfl) (fun K hK => ?_)
          go_simp
          refine hK.out _ _ (fun _ => ⟨r0, r1⟩) ?_
          clear hK K
          refine wpAnyE_do (i := 13) (by kernel_rfl) rfl (by kernel_rfl) (fun K hK => ?_)
          go_simp
          refine hK.out _ _ (fun _ => ⟨r0, r1⟩) ?_
          clear hK K
          refine wpAnyE_do (i := 14) (by kernel_rfl) rfl (by kernel_rfl) (fun K hK => ?_)
          go_simp
          refine hK.out _ _ (fun h => absurd rfl h) ?_
          clear hK K
          refine wpAnyE_done (by kernel_rfl) ?_ _
          try simp only [Act.put, List.getElem_toArray, List.getElem_cons_zero, List.getElem_cons_succ, List.setIfInBounds_toArray, List.set_cons_zero, List.set_cons_succ]
          go_wp2_with (fail)
          go_roundw
          case measure => simp [intOf]; omega
          case rel =>
            refine ⟨j + 1, { Lj with av := .slice a8 (j + 1) c8, KB := fun k => Lj.KB k ∨ (∃ p, gp = some p ∧ p.block = k) }, int_congrP (by omega), by omega, ?_⟩
            obtain ⟨hσj, hσn, hjl⟩ := HSJ.out
            obtain ⟨hks2, hys, hkk2⟩ := HKS2.out
            have hw0 : Below wr.heap.size wr W0.drew := HW0.out
            have hB4 := HB4.out
            have e4 : W0.drew.heap.size ≤ W4.heap.size := hB4.size
            have hB5 : Below W0.drew.heap.size W0.drew (W4.alloc (.cells #[.int .i64 (af : Int), .slice gp m cn] 89)) := hB4.alloc e4 _
            have hw5 : Below wr.heap.size wr (W4.alloc (.cells #[.int .i64 (af : Int), .slice gp m cn] 89)) := hw0.trans (hB5.mono hw0.size)
            have hg8 := HG8.out
            have hlt : ∀ g, Lj.av.ownBlock = some g → g < wr.heap.size := fun g hg => by obtain ⟨c', hc'⟩ := own_type HAV0.out hg; exact lt_of_heap hc'
            have hnb : Lj.av.ownBlock ≠ some b := fun e => by obtain ⟨c', hc'⟩ := own_type HAV0.out e; exact ne_ty hc' HDJ.out.dev (by decide) rfl
            have x1 : (W4.alloc (.cells #[.int .i64 (af : Int), .slice gp m cn] 89)).heap[b]? = _ := (hw5.block b HDJ.out.lt).trans HDJ.out.dev
            have y1 : W8.heap[b]? = _ := (hg8.block b (lt_of_heap x1) (fun e => hnb e.symm)).trans x1
            have z1 := heap_set1 W8 b 5 _ _ (.slice a8 (j + 1) c8) y1
            have q5 : ∀ k, k < (W4.alloc (.cells #[.int .i64 (af : Int), .slice gp m cn] 89)).heap.size → k ≠ b → Lj.av.ownBlock ≠ some k → (W8.setCell ⟨b, 5, none⟩ (.slice a8 (j + 1) c8)).heap[k]? = (W4.alloc (.cells #[.int .i64 (af : Int), .slice gp m cn] 89)).heap[k]? := fun k h1 h2 h3 => (heap_set_ne _ b 5 k _ h2).trans (hg8.block k h1 (fun e => h3 e.symm))
            have hown : (W8.setCell ⟨b, 5, none⟩ (.slice a8 (j + 1) c8)).ownsRow 0 89 2 (.slice a8 (j + 1) c8) (j + 1) (ys ++ [.int .i64 (af : Int), .slice gp m cn]) := ownsRow_of_block HO8.out (fun g hg => heap_set_ne _ b 5 g _ (fun e => by
              obtain ⟨c', hc'⟩ := own_type HO8.out hg
              exact ne_ty hc' y1 (by decide) e))
            have hgnk : ∀ (gn : Nat) (c : Array Value), W4.heap[gn]? = some (.cells c 3 (0, 0)) → (W8.setCell ⟨b, 5, none⟩ (.slice a8 (j + 1) c8)).heap[gn]? = some (.cells c 3 (0, 0)) := fun gn c hc => by
              have h5 := Below.heap_alloc W4 (.cells #[.int .i64 (af : Int), .slice gp m cn] 89) gn (lt_of_heap hc)
              have h6 : (W4.alloc (.cells #[.int .i64 (af : Int), .slice gp m cn] 89)).heap[gn]? = some (.cells c 3 (0, 0)) := h5.trans hc
              refine (q5 gn (lt_of_heap h6) (ne_ty h6 x1 (by decide)) (fun e => ?_)).trans h6
              obtain ⟨c', hc'⟩ := own_type HAV0.out e
              exact ne_ty h6 ((hw5.block gn (lt_of_heap hc')).trans hc') (by decide) rfl
            have hkeep : KeepAt (W8.setCell ⟨b, 5, none⟩ (.slice a8 (j + 1) c8)) (fun k => ∃ p, gp = some p ∧ p.block = k) (.slice gp m cn) kp := by
              refine ⟨gp, cn, by rw [HKL.out], ?_⟩
              rcases HCR.out with ⟨r1, r2⟩ | ⟨gn, c, r1, r2, r3, r4⟩
              · exact .inl ⟨r1, r2⟩
              · exact .inr ⟨gn, r1, ⟨_, r1, rfl⟩, fun i x hx => by rw [cell8 (hgnk gn c r3)]; exact r4 i x hx⟩
            have hd := HDJ.out.armedG (w' := W8.setCell ⟨b, 5, none⟩ (.slice a8 (j + 1) c8)) (v8 := .slice a8 (j + 1) c8) (af := af) (kp := kp) hks2 hys hkk2 (by rw [z1]; rfl) (by rw [hjl]; exact hown) hkeep (fun k hk => by
              obtain ⟨p, hp, rfl⟩ := hk
              rcases HCR.out with ⟨r1, _⟩ | ⟨gn, c, r1, r2, r3, r4⟩
              · rw [r1] at hp; cases hp
              · rw [r1] at hp; cases hp; exact ⟨c, hgnk gn c r3⟩) (fun k h1 h2 h3 => (q5 k (Nat.lt_of_lt_of_le h1 hw5.size) h2 h3).trans (hw5.block k h1))
            have hst : ({ σ with arms := (ar.take (j + 1)).map (kpOf σ.n) } : St) = { σj with arms := σj.arms ++ [(af, kp)] } := by rw [HTK.out, ← hσj]
            rw [hst]
            have hsw := HGR.out.size
            refine ⟨hd, fun k hk => ?_, ?_, fun g hg => ?_, hNL⟩
            · rcases hk with r | r | r | r | r | r | r
              · exact HFT.out k (.inl r)
              · exact HFT.out k (.inr (.inl r))
              · exact HFT.out k (.inr (.inr (.inl r)))
              · exact HFT.out k (.inr (.inr (.inr (.inl r))))
              · exact HFT.out k (.inr (.inr (.inr (.inr (.inl r)))))
              · rcases HL8.out with e | e
                · rw [e] at r; exact HFT.out k (.inr (.inr (.inr (.inr (.inr (.inl r))))))
                · rw [e] at r; cases r; exact .inr (Nat.le_trans hsw hw5.size)
              · rcases r with r | ⟨p, hp, rfl⟩
                · exact HFT.out k (.inr (.inr (.inr (.inr (.inr (.inr r))))))
                · rcases HCR.out with ⟨r1, _⟩ | ⟨gn, c, r1, r2, r3, r4⟩
                  · rw [r1] at hp; cases hp
                  · rw [r1] at hp; cases hp; exact .inr (Nat.le_trans hsw (Nat.le_trans hw0.size r2))
            · refine ((HGR.out.trans (Gr.of_below hw5 : Gr (fun _ => False) wr _) (fun i h => h.elim)).trans (Gr.of_grown (X := fun k => Lj.av.ownBlock = some k) hg8 (fun k hk => .inl hk)) (fun i hi => ?_)).trans (Gr.set W8 b 5 _ (X := fun k => k = b) rfl) (fun i h => .inl (.inl h))
              rcases HAVJ.out i hi with e | e
              · exact .inl (.inr e)
              · exact .inr e
            · rcases HL8.out with e | e
              · rw [e] at hg; exact HAVJ.out g hg
              · rw [e] at hg; cases hg; exact .inr (Nat.le_trans hsw hw5.size)
        · have jI : ¬ (j : Int) < (n : Int) := by omega
          have e : ar.take j = ar := List.take_of_length_le (by rw [HN.out]; omega)
          rw [e] at hd hft
          have HF := hide (show ∃ L', DevL wr b L' { σ with arms := ar.map (kpOf σ.n) } ∧ (∀ k, Foot b L' { σ with arms := ar.map (kpOf σ.n) } k → Foot b L σ k ∨ w.heap.size ≤ k) ∧ Gr (Foot b L σ) w wr ∧ L'.N ≤ L.N from ⟨Lj, hd, hft, hgr.mono (fun k hk => hk.elim (fun e => .inl e) (fun e => .inr (.inr (.inr (.inr (.inr (.inl e))))))), hNL⟩)
          clear hd hft hgr havj
          go_wp2_with (fail)
          go_ret
          exact ⟨rfl, HF.out⟩
end
end Go.Proofs.Ytgfgihpkbbjkfaa
namespace Go.Proofs.Ytgfgihpkbbjkfaa
open Go.RowKit Go.Shelf
set_option linter.unusedVariables false
set_option maxRecDepth 100000

theorem SlZ.below {w w' : World} {a : Option Addr} {zs : List Int} (h : SlZ w a zs) (hB : Below w.heap.size w w') : SlZ w' a zs :=
  ⟨h.1, h.2.imp id (fun ⟨g, o, e, hg, hc⟩ => ⟨g, o, e, Nat.lt_of_lt_of_le hg hB.size, fun i z hz => (hB.cell (p := ⟨g, o + i, none⟩) hg).trans (hc i z hz)⟩)⟩
/-- Losses that were handed in. -/
def SlA (w : World) (aa : Option Addr) (ars : List (Int × List Int)) : Prop := (∀ x ∈ ars, (-9223372036854775808 ≤ x.1 ∧ x.1 ≤ 9223372036854775807) ∧ x.2.length ≤ 1048576) ∧ (ars = [] ∨ ∃ g o, aa = some ⟨g, o, none⟩ ∧ g < w.heap.size ∧ ∀ (i : Nat) (x : Int × List Int), ars[i]? = some x → w.cell? ⟨g, o + i * 2, none⟩ = some (.int .i64 x.1) ∧ ∃ ka kc, w.cell? ⟨g, o + i * 2 + 1, none⟩ = some (.slice ka x.2.length kc) ∧ SlZ w ka x.2)
theorem SlA.below {w w' : World} {a : Option Addr} {xs : List (Int × List Int)} (h : SlA w a xs) (hB : Below w.heap.size w w') : SlA w' a xs := by
  refine ⟨h.1, h.2.imp id ?_⟩
  rintro ⟨g, o, e, hg, hc⟩
  refine ⟨g, o, e, Nat.lt_of_lt_of_le hg hB.size, fun i x hi => ?_⟩
  obtain ⟨h1, ka, kc, h2, h3⟩ := hc i x hi
  exact ⟨(hB.cell (p := ⟨g, o + i * 2, none⟩) hg).trans h1, ka, kc, (hB.cell (p := ⟨g, o + i * 2 + 1, none⟩) hg).trans h2, h3.below hB⟩
def avR (x : Int × List Int) : Nat × List Int := ((1 + x.1 % 60).toNat, x.2.map (fun z => z % 1000))
def avL (ars : List (Int × List Int)) (i : Nat) : List (Nat × List Int) := (ars.take i).map avR
theorem avL_succ {ars : List (Int × List Int)} {i : Nat} {x : Int × List Int} (h : ars[i]? = some x) : avL ars (i + 1) = avL ars i ++ [avR x] := by
  unfold avL
  rw [List.take_add_one, h]
  simp
theorem avL_len {ars : List (Int × List Int)} {i : Nat} (h : i ≤ ars.length) : (avL ars i).length = i := by
  unfold avL
  rw [List.length_map, List.length_take]
  omega
theorem avL_mem {ars : List (Int × List Int)} {i : Nat} (hl : ∀ x ∈ ars, x.2.length ≤ 1048576) : ∀ y ∈ avL ars i, 1 ≤ y.1 ∧ y.1 ≤ 60 ∧ y.2.length ≤ 1048576 ∧ ∀ z ∈ y.2, 0 ≤ z ∧ z < 1000 := by
  intro y hy
  unfold avL at hy
  obtain ⟨x, hx, rfl⟩ := List.mem_map.1 hy
  have h5 := hl x (List.mem_of_mem_take hx)
  unfold avR
  refine ⟨by show 1 ≤ (1 + x.1 % 60).toNat; omega, by show (1 + x.1 % 60).toNat ≤ 60; omega, by rw [List.length_map]; exact h5, fun z hz => ?_⟩
  obtain ⟨q, _, rfl⟩ := List.mem_map.1 hz
  omega
/-- A list of what lines keep that was made. -/
def KeepV (w : World) (base : Nat) (k : Value) (zs : List Int) : Prop := ∃ ka ck, k = .slice ka zs.length ck ∧ KeepIn w ka ck zs
def armQ (p : Value × (Nat × List Int)) : List Value := [.int .i64 (p.2.1 : Int), p.1]
def RowQ (w : World) (base : Nat) (v : Value) (l : List (Nat × List Int)) : Prop := ∃ kvs : List Value, kvs.length = l.length ∧ w.ownsRow base 89 2 v l.length ((kvs.zip l).flatMap armQ) ∧ ∀ (i : Nat) (k : Value) (x : Nat × List Int), kvs[i]? = some k → l[i]? = some x → KeepV w base k x.2
theorem RowQ.below {w w' : World} {base : Nat} {v : Value} {l : List (Nat × List Int)} (h : RowQ w base v l) (hB : Below w.heap.size w w') : RowQ w' base v l := by
  obtain ⟨kvs, h1, h2, h3⟩ := h
  refine ⟨kvs, h1, own_below h2 hB, fun i k x q1 q2 => ?_⟩
  obtain ⟨ka, ck, e, h4⟩ := h3 i k x q1 q2
  exact ⟨ka, ck, e, h4.below hB⟩
theorem armQ_get : ∀ (l : List (Value × (Nat × List Int))) (i : Nat) (p : Value × (Nat × List Int)), l[i]? = some p → (l.flatMap armQ)[i * 2]? = some (.int .i64 (p.2.1 : Int)) ∧ (l.flatMap armQ)[i * 2 + 1]? = some p.1
  | [], i, p, h => by simp at h
  | y :: t, 0, p, h => by simp at h; subst h; exact ⟨rfl, rfl⟩
  | y :: t, i + 1, p, h => by
    have h1 := armQ_get t i p (by simpa using h)
    have e : ((y :: t).flatMap armQ) = .int .i64 (y.2.1 : Int) :: y.1 :: t.flatMap armQ := rfl
    rw [e, show (i + 1) * 2 = i * 2 + 1 + 1 by omega]
    exact h1
theorem RowQ.arms {w : World} {base : Nat} {v : Value} {l : List (Nat × List Int)} {L : Lay} (h : RowQ w base v l) (hL : ∀ g, L.av.ownBlock = some g → g < base) (hl : ∀ y ∈ l, 1 ≤ y.1 ∧ y.2.length ≤ 1048576) : ∃ aa ca, v = .slice aa l.length ca ∧ ArmsIn w L aa l := by
  obtain ⟨kvs, h1, h2, h3⟩ := h
  rcases h2.2 with ⟨rfl, h0⟩ | ⟨g, cap, cur, rfl, hb, hg, hn, hm, hs, ht⟩
  · refine ⟨none, 0, by rw [h0], fun i x hx => ?_⟩
    have := (List.getElem?_eq_some_iff.1 hx).1
    omega
  · refine ⟨_, cap, rfl, fun i x hx => ?_⟩
    have hi : i < l.length := (List.getElem?_eq_some_iff.1 hx).1
    have hk : kvs[i]? = some kvs[i] := List.getElem?_eq_getElem (by omega)
    obtain ⟨c0, c1⟩ := armQ_get (kvs.zip l) i (kvs[i], x) (List.getElem?_zip_eq_some.2 ⟨hk, hx⟩)
    rw [← ht, List.getElem?_take, if_pos (by omega), Array.getElem?_toList] at c0 c1
    obtain ⟨ka, ck, e, h4⟩ := h3 i _ x hk hx
    have h5 := hl x (List.mem_of_getElem? hx)
    exact ⟨g, cur, ka, ck, rfl, hg, fun e => by have := hL g e; omega, c0, by rw [c1]; exact congrArg some e, h5.1, by omega, h4⟩
/-- The variable that is armed, and its row. -/
structure KpQ (W : World) (ga : Nat) (av : Int) (kv : Value) (i : Nat) (zs : List Int) : Prop where
  var : W.heap[ga]? = some (.cells #[.int .i64 av, kv] 89 (0, 0))
  row : W.ownsRow (ga + 1) 3 1 kv i (zs.map (fun z => .int .i64 z))
def ksQ (ks : List Int) (i : Nat) : List Int := (ks.take i).map (fun x => x % 1000)
theorem ksQ_succ {ks : List Int} {i : Nat} {x : Int} (h : ks[i]? = some x) : ksQ ks (i + 1) = ksQ ks i ++ [x % 1000] := by
  unfold ksQ
  rw [List.take_add_one, h]
  simp
theorem KpQ.keep {W : World} {ga i : Nat} {av : Int} {kv : Value} {zs : List Int} (h : KpQ W ga av kv i zs) (hl : zs.length = i) (hz : ∀ z ∈ zs, 0 ≤ z ∧ z < 1000) (base : Nat) : KeepV W base kv zs := by
  rcases h.row.2 with ⟨rfl, h0⟩ | ⟨g, cap, cur, rfl, hb, hg, hn, hm, hs, ht⟩
  · have e : zs = [] := List.eq_nil_of_length_eq_zero (by omega)
    subst e
    exact ⟨none, 0, rfl, by simp, Nat.le_refl _, .inl ⟨rfl, rfl, rfl⟩⟩
  · refine ⟨_, cap, by rw [hl], fun z h1 => by have := hz z h1; omega, by omega, .inr ⟨g, cur, rfl, hg, fun j z hj => ?_⟩⟩
    have h1 : (zs.map (fun z => Value.int .i64 z))[j]? = some (.int .i64 z) := by rw [List.getElem?_map, hj]; rfl
    have h2 := (List.getElem?_eq_some_iff.1 hj).1
    rw [← ht, List.getElem?_take, if_pos (by omega), Array.getElem?_toList] at h1
    exact h1
set_option maxHeartbeats 4000000 in
theorem uarms_any {w : World} {ea a1 a2 : Option Addr} {ars : List (Int × List Int)} {m c m1 c1 m2 c2 : Nat} {lg : Bool} (h : SlA w a2 ars) (hm : ars.length = m2) :
    Calls Try.prog 14 #[.agg #[.slice ea m c, .slice a1 m1 c1, .slice a2 m2 c2, .bool lg]] w fun e w' => ∃ v, e = .returned v ∧ ∃ k, k ≤ m2 ∧ k ≤ 6 ∧ RowQ w' w.heap.size v (avL ars k) ∧ Below w.heap.size w w' := by
  obtain ⟨i0, hi0, hi1, hi2, hi3⟩ := infoArm2
  obtain ⟨i1, hj0, hj1, hj2, hj3⟩ := infoNum
  have hA : Below w.heap.size w (w.alloc (.cells #[.slice ea m c, .slice a1 m1 c1, .slice a2 m2 c2, .bool lg] 26)) := (Below.refl _ w).alloc (Nat.le_refl _) _
  have hX := heap_alloc_new w (.cells #[.slice ea m c, .slice a1 m1 c1, .slice a2 m2 c2, .bool lg] 26)
  have HH := hide h
  have HM := hide hm
  clear h hm
  go_enter Try.func14, Try.ntmps14
  go_wp2
  generalize hXX : w.alloc (.cells #[.slice ea m c, .slice a1 m1 c1, .slice a2 m2 c2, .bool lg] 26) = X at *
  have hsX : w.heap.size < X.heap.size := lt_of_heap hX
  have HA := hide hA
  have HX := hide hX
  clear hA hX hXX
  go_loopw [3, 4] (fun lv iv wr => ∃ i : Nat, iv = .int .i64 (i : Int) ∧ i ≤ m2 ∧ i ≤ 6 ∧ RowQ wr X.heap.size lv (avL ars i) ∧ Below X.heap.size X wr) (fun _ iv _ => (6 - (intOf iv).toNat))
  case atStart => exact ⟨0, rfl, Nat.zero_le _, Nat.zero_le _, ⟨[], rfl, ⟨rfl, .inl ⟨rfl, rfl⟩⟩, fun i k x h => by simp at h⟩, Below.refl _ _⟩
  case round =>
    obtain ⟨i, rfl, him, hi6, hr, hB⟩ := hrel
    have hXr := (hB.block _ hsX).trans HX.out
    have cS : wr.cell? ⟨w.heap.size, 2, none⟩ = some (.slice a2 m2 c2) := cell8 hXr 2
    by_cases hlt : i < m2
    · have iI : (i : Int) < (m2 : Int) := by omega
      by_cases hlt6 : i < 6
      · have iI6 : (i : Int) < 6 := by omega
        obtain ⟨x, hx⟩ : ∃ x, ars[i]? = some x := ⟨_, List.getElem?_eq_getElem (by rw [HM.out]; exact hlt)⟩
        obtain ⟨hxb, hxl⟩ := HH.out.1 x (List.mem_of_getElem? hx)
        have hbs := avL_succ hx
        obtain ⟨g, o, rfl, hg, hcc⟩ : ∃ g o, a2 = some ⟨g, o, none⟩ ∧ g < w.heap.size ∧ ∀ (i : Nat) (x : Int × List Int), ars[i]? = some x → w.cell? ⟨g, o + i * 2, none⟩ = some (.int .i64 x.1) ∧ ∃ ka kc, w.cell? ⟨g, o + i * 2 + 1, none⟩ = some (.slice ka x.2.length kc) ∧ SlZ w ka x.2 := by
          rcases HH.out.2 with e | e
          · rw [e] at hx; simp at hx
          · exact e
        obtain ⟨q1, ka, kc, q2, hsz⟩ := hcc i x hx
        obtain ⟨xa, ks⟩ := x
        simp only at hxb hxl q1 q2 hsz hbs
        have hgr : Below w.heap.size w wr := bseq HA.out hB
        have cx : wr.cell? ⟨g, o + i * 2, none⟩ = some (.int .i64 xa) := (hgr.cell (p := ⟨g, o + i * 2, none⟩) hg).trans q1
        have ck : wr.cell? ⟨g, o + i * 2 + 1, none⟩ = some (.slice ka ks.length kc) := (hgr.cell (p := ⟨g, o + i * 2 + 1, none⟩) hg).trans q2
        have ib : ∀ Y, (Instr.indexAt 24 (.slice (some ⟨g, o, none⟩) m2 c2) (.int .i64 (i : Int))).run Try.prog Y = .ok (.pointer (some ⟨g, o + i * 2, none⟩)) Y := fun Y => index_at (t := 24) (e := 89) (sz := 2) armSlice (by kernel_rfl) g o i m2 c2 hlt Y
        have KW := hide (fun W => uwithin_any W xa 60 (by omega) (by omega) hxb.1 hxb.2)
        obtain ⟨av, hav⟩ : ∃ av : Nat, (av : Int) = 1 + xa % 60 := ⟨(1 + xa % 60).toNat, by omega⟩
        have havR : avR (xa, ks) = (av, ks.map (fun z => z % 1000)) := by unfold avR; simp only; rw [← hav]; rfl
        obtain ⟨am, ham⟩ : ∃ am, xa % 60 = am := ⟨_, rfl⟩
        rw [ham] at KW hav
        have wav : IntKind.i64.wrap (1 + am) = (av : Int) := by rw [IntKind.wrap_i64]; omega
        obtain ⟨nk, hnk⟩ : ∃ nk, ks.length = nk := ⟨_, rfl⟩
        rw [hnk] at ck hxl
        have HSZ := hide (hsz.below hgr)
        have HNK := hide hnk
        have HBS := hide hbs
        have HAV := hide havR
        have HR := hide hr
        have HB := hide hB
        have HCX := hide (And.intro hXr (And.intro hg ck))
        clear hbs hr hB hgr hcc hx hsz havR hav ham hnk hXr
        go_upto_region 6 with (go_at_call 25; refine (KW.out _).mono ?_; rintro e w' ⟨rfl, hw⟩; obtain rfl := hw.symm)
        obtain ⟨V, hV⟩ : ∃ V, wr.alloc (.cells #[.int .i64 (av : Int), .slice none 0 0] 89) = V := ⟨_, rfl⟩
        have hAV : Below wr.heap.size wr V := by rw [← hV]; exact (Below.refl _ wr).alloc (Nat.le_refl _) _
        have hnew : V.heap[wr.heap.size]? = some (.cells #[.int .i64 (av : Int), .slice none 0 0] 89 (0, 0)) := by rw [← hV]; exact heap_alloc_new wr _
        obtain ⟨ga, hga⟩ : ∃ ga, wr.heap.size = ga := ⟨_, rfl⟩
        obtain ⟨W1, hW1⟩ : ∃ W1, wr = W1 := ⟨_, rfl⟩
        rw [hga] at hnew
        have HKV : Hid (KpQ V ga (av : Int) (.slice none 0 0) 0 (ksQ ks 0)) := ⟨hnew, ⟨rfl, .inl ⟨rfl, rfl⟩⟩⟩
        have HAV4 := hide hAV
        have HGA := hide hga
        rw [hV, hga]
        clear hAV hnew hV hga cx wav
        subst hW1
        go_wp2_with (fail)
        try go_frame
        generalize hwr1 : wr = W1 at *
        clear hwr1
        go_loopw [6] (fun iv wr => ∃ (q : Nat) (kv : Value), iv = .int .i64 (q : Int) ∧ q ≤ nk ∧ KpQ wr ga (av : Int) kv q (ksQ ks q) ∧ Below W1.heap.size W1 wr) (fun iv _ => (nk - (intOf iv).toNat))
        case atStart => exact ⟨0, _, rfl, Nat.zero_le _, HKV.out, HAV4.out⟩
        case round =>
          obtain ⟨q, kv, rfl, hq, hkp, hBr⟩ := hrel
          obtain ⟨la, lc, hkvs⟩ := own_slice hkp.row
          subst hkvs
          have hgaE := HGA.out
          have hglt := lt_of_heap hkp.var
          have d2 : wr.cell? ⟨w.heap.size, 2, none⟩ = some (.slice (some ⟨g, o, none⟩) m2 c2) := cell8 ((hBr.block _ (lt_of_heap HCX.out.1)).trans HCX.out.1) 2
          have hgW : g < W1.heap.size := by have := HA.out.size; have := HB.out.size; have := HCX.out.2.1; omega
          have d3 : wr.cell? ⟨g, o + i * 2 + 1, none⟩ = some (.slice ka nk kc) := (hBr.cell (p := ⟨g, o + i * 2 + 1, none⟩) hgW).trans HCX.out.2.2
          by_cases hql : q < nk
          · have qI : (q : Int) < (nk : Int) := by omega
            obtain ⟨z, hz⟩ : ∃ z, ks[q]? = some z := ⟨_, List.getElem?_eq_getElem (by rw [HNK.out]; exact hql)⟩
            have hzb := HSZ.out.1 z (List.mem_of_getElem? hz)
            obtain ⟨kg, ko, rfl, hkg, hkc⟩ : ∃ g o, ka = some ⟨g, o, none⟩ ∧ g < W1.heap.size ∧ ∀ (i : Nat) (z : Int), ks[i]? = some z → W1.cell? ⟨g, o + i, none⟩ = some (.int .i64 z) := by
              rcases HSZ.out.2 with e | e
              · rw [e] at hz; simp at hz
              · exact e
            have hks := ksQ_succ hz
            have d4 : wr.cell? ⟨kg, ko + q, none⟩ = some (.int .i64 z) := (hBr.cell (p := ⟨kg, ko + q, none⟩) hkg).trans (hkc q z hz)
            have s0 : wr.drew.cell? ⟨ga, 1, none⟩ = some (.slice la q lc) ∧ wr.drew.cell? ⟨w.heap.size, 2, none⟩ = some (.slice (some ⟨g, o, none⟩) m2 c2) ∧ wr.drew.cell? ⟨g, o + i * 2 + 1, none⟩ = some (.slice (some ⟨kg, ko, none⟩) nk kc) ∧ wr.drew.cell? ⟨kg, ko + q, none⟩ = some (.int .i64 z) := ⟨cell8 (w := wr.drew) hkp.var 1, d2, d3, d4⟩
            have KWI := hide (fun W => uwithin_any W z 1000 (by omega) (by omega) hzb.1 hzb.2)
            obtain ⟨zv, hzv⟩ : ∃ zv, z % 1000 = zv := ⟨_, rfl⟩
            rw [hzv] at KWI hks
            have IX := hide (fun X => index_numU kg ko q nk kc hql X)
            have IXA := hide ib
            have S0 := hide s0
            have HKP := hide hkp
            have HBR := hide hBr
            have HKZ := hide hks
            have hwl : w.heap.size < W1.heap.size := lt_of_heap HCX.out.1
            clear s0 hkp hBr hks hzv hkc hz ib
            go_wp2_with (fail)
            try go_frame
            refine wp_region_early 15 (fun X => X.cell? ⟨ga, 1, none⟩ = some (.slice la q lc) ∧ X.cell? ⟨w.heap.size, 2, none⟩ = some (.slice (some ⟨g, o, none⟩) m2 c2) ∧ X.cell? ⟨g, o + i * 2 + 1, none⟩ = some (.slice (some ⟨kg, ko, none⟩) nk kc) ∧ X.cell? ⟨kg, ko + q, none⟩ = some (.int .i64 z)) (by kernel_rfl) S0.out (fun hS => ?_)
            refine wpAnyE_take (i := 0) (v := (.pointer (some ⟨ga, 1, none⟩))) rfl (by kernel_rfl) (by kernel_rfl) (by kernel_rfl) (by kernel_rfl) (fun _ _ _ h => h) (Or.inl ⟨by kernel_rfl, fun w' hw => by (go_simp)⟩) hS ?_
            refine wpAnyE_take (i := 1) (v := (.slice la q lc)) rfl (by kernel_rfl) (by kernel_rfl) (by kernel_rfl) (by kernel_rfl) (fun _ _ _ h => h) (Or.inl ⟨by kernel_rfl, fun w' hw => by (have e0 := hw.1; go_simp)⟩) hS ?_
            refine wpAnyE_take (i := 2) (v := (.pointer (some ⟨w.heap.size, 2, none⟩))) rfl (by kernel_rfl) (by kernel_rfl) (by kernel_rfl) (by kernel_rfl) (fun _ _ _ h => h) (Or.inl ⟨by kernel_rfl, fun w' hw => by (go_simp)⟩) hS ?_
            refine wpAnyE_take (i := 3) (v := (.slice (some ⟨g, o, none⟩) m2 c2)) rfl (by kernel_rfl) (by kernel_rfl) (by kernel_rfl) (by kernel_rfl) (fun _ _ _ h => h) (Or.inl ⟨by kernel_rfl, fun w' hw => by (have e0 := hw.2.1; go_simp)⟩) hS ?_
            refine wpAnyE_take (i := 4) (v := (.int .i64 (i : Int))) rfl (by kernel_rfl) (by kernel_rfl) (by kernel_rfl) (by kernel_rfl) (fun _ _ _ h => h) (Or.inl ⟨by kernel_rfl, fun w' hw => by (go_simp)⟩) hS ?_
            refine wpAnyE_take (i := 5) (v := (.pointer (some ⟨g, o + i * 2, none⟩))) rfl (by kernel_rfl) (by kernel_rfl) (by kernel_rfl) (by kernel_rfl) (fun _ _ _ h => h) (Or.inl ⟨by kernel_rfl, fun w' hw => by (have e := IXA.out w'; go_simp)⟩) hS ?_
            refine wpAnyE_take (i := 6) (v := (.pointer (some ⟨g, o + i * 2 + 1, none⟩))) rfl (by kernel_rfl) (by kernel_rfl) (by kernel_rfl) (by kernel_rfl) (fun _ _ _ h => h) (Or.inl ⟨by kernel_rfl, fun w' hw => by (go_simp)⟩) hS ?_
            refine wpAnyE_take (i := 7) (v := (.slice (some ⟨kg, ko, none⟩) nk kc)) rfl (by kernel_rfl) (by kernel_rfl) (by kernel_rfl) (by kernel_rfl) (fun _ _ _ h => h) (Or.inl ⟨by kernel_rfl, fun w' hw => by (have e0 := hw.2.2.1; go_simp)⟩) hS ?_
            refine wpAnyE_take (i := 8) (v := (.int .i64 (q : Int))) rfl (by kernel_rfl) (by kernel_rfl) (by kernel_rfl) (by kernel_rfl) (fun _ _ _ h => h) (Or.inl ⟨by kernel_rfl, fun w' hw => by (go_simp)⟩) hS ?_
            refine wpAnyE_take (i := 9) (v := (.pointer (some ⟨kg, ko + q, none⟩))) rfl (by kernel_rfl) (by kernel_rfl) (by kernel_rfl) (by kernel_rfl) (fun _ _ _ h => h) (Or.inl ⟨by kernel_rfl, fun w' hw => by (have e := IX.out w'; go_simp)⟩) hS ?_
            refine wpAnyE_take (i := 10) (v := (.int .i64 z)) rfl (by kernel_rfl) (by kernel_rfl) (by kernel_rfl) (by kernel_rfl) (fun _ _ _ h => h) (Or.inl ⟨by kernel_rfl, fun w' hw => by (have e0 := hw.2.2.2; go_simp)⟩) hS ?_
            refine wpAnyE_do (i := 11) (by kernel_rfl) rfl (by kernel_rfl) (fun K hK => ?_)
            go_wp2_with (go_at_call 25; refine (KWI.out _).mono ?_; rintro e w' ⟨rfl, hw⟩; obtain rfl := hw.symm)
            refine hK.out _ _ (fun _ => hS) ?_
            clear hK K
            have hA5 : Below wr.heap.size wr (wr.drew.alloc (.cells #[.int .i64 zv] 3)) := bseq (Below.refl _ wr).drew ((Below.refl _ wr.drew).alloc (Nat.le_refl _) _)
            have hWr := HBR.out.size
            refine wpAnyE_do (i := 12) (by kernel_rfl) rfl (by kernel_rfl) (fun K hK => ?_)
            go_wp2_with (fail)
            have hS5 : (wr.drew.alloc (.cells #[.int .i64 zv] 3)).cell? ⟨ga, 1, none⟩ = some (.slice la q lc) ∧ (wr.drew.alloc (.cells #[.int .i64 zv] 3)).cell? ⟨w.heap.size, 2, none⟩ = some (.slice (some ⟨g, o, none⟩) m2 c2) ∧ (wr.drew.alloc (.cells #[.int .i64 zv] 3)).cell? ⟨g, o + i * 2 + 1, none⟩ = some (.slice (some ⟨kg, ko, none⟩) nk kc) ∧ (wr.drew.alloc (.cells #[.int .i64 zv] 3)).cell? ⟨kg, ko + q, none⟩ = some (.int .i64 z) := ⟨(hA5.cell (p := ⟨ga, 1, none⟩) hglt).trans S0.out.1, (hA5.cell (p := ⟨w.heap.size, 2, none⟩) (by show w.heap.size < _; omega)).trans S0.out.2.1, (hA5.cell (p := ⟨g, o + i * 2 + 1, none⟩) (by show g < _; omega)).trans S0.out.2.2.1, (hA5.cell (p := ⟨kg, ko + q, none⟩) (by show kg < _; omega)).trans S0.out.2.2.2⟩
            refine hK.out _ _ (fun _ => hS5) ?_
            clear hK K
            have HR5 := hide (own_below HKP.out.row hA5)
            have hv5 := row_keepU HKP.out.var hA5
            have hsz5 : ga + 1 ≤ (wr.drew.alloc (.cells #[.int .i64 zv] 3)).heap.size := by have := lt_of_heap hv5; omega
            refine wpAnyE_do (i := 13) (by kernel_rfl) rfl (by kernel_rfl) (fun K hK => ?_)
            refine wp_append_at (.tmp 39) (.tmp 50) 87 (by kernel_rfl) (ga + 1) 3 i1 (.int .i64 0) 1 8 Try.underlying87 hj0 hj1 hj2 hj3 rfl (by decide) (.slice la q lc) q ((ksQ ks q).map (fun z => .int .i64 z)) (by kernel_rfl) HR5.out ⟨wr.heap.size, 0, none⟩ 1 1 [.int .i64 zv] (by kernel_rfl) rfl (cell_oneU wr.drew _ _) (by simp [Value.oneCell']) (by unfold maxLen; omega) (by omega) hsz5 ?_
            intro v4 x1 ho4 hg4 _ _
            obtain ⟨va, vc, rfl⟩ := own_slice ho4
            have hkga : x1.heap[ga]? = some (.cells #[.int .i64 (av : Int), .slice la q lc] 89 (0, 0)) := (hg4.block ga (lt_of_heap hv5) (fun e => by
              obtain ⟨c', hc'⟩ := own_type HR5.out e.symm
              exact ne_ty hv5 hc' (by decide) rfl)).trans hv5
            have hlow : ∀ k, k < ga → x1.heap[k]? = wr.heap[k]? := fun k hk => (hg4.block k (Nat.lt_of_lt_of_le (Nat.lt_succ_of_lt hk) hsz5) (fun e => by have h9 := (HR5.out.lt k e.symm).1; exact absurd h9 (by omega))).trans (hA5.block k (Nat.lt_trans hk hglt))
            have hS6 : x1.cell? ⟨ga, 1, none⟩ = some (.slice la q lc) ∧ x1.cell? ⟨w.heap.size, 2, none⟩ = some (.slice (some ⟨g, o, none⟩) m2 c2) ∧ x1.cell? ⟨g, o + i * 2 + 1, none⟩ = some (.slice (some ⟨kg, ko, none⟩) nk kc) ∧ x1.cell? ⟨kg, ko + q, none⟩ = some (.int .i64 z) := ⟨cell8 hkga 1, (World.cell?_of_block (a := ⟨w.heap.size, 2, none⟩) (hlow w.heap.size (by have := HGA.out; omega))).trans S0.out.2.1, (World.cell?_of_block (a := ⟨g, o + i * 2 + 1, none⟩) (hlow g (by have := HGA.out; omega))).trans S0.out.2.2.1, (World.cell?_of_block (a := ⟨kg, ko + q, none⟩) (hlow kg (by have := HGA.out; omega))).trans S0.out.2.2.2⟩
            have f6 := froz8 hkga 1
            refine hK.out _ _ (fun _ => hS6) ?_
            clear hK K
            refine wpAnyE_take (i := 14) (v := (.pointer (some ⟨ga, 1, none⟩))) rfl (by kernel_rfl) (by kernel_rfl) (by kernel_rfl) (by kernel_rfl) (fun _ _ _ h => h) (Or.inl ⟨by kernel_rfl, fun w' hw => by (go_simp)⟩) hS6 ?_
            have yk : KpQ (x1.setCell ⟨ga, 1, none⟩ (.slice va (q + 1) vc)) ga (av : Int) (.slice va (q + 1) vc) (q + 1) (ksQ ks (q + 1)) := by
              refine ⟨?_, ?_⟩
              · have := heap_setCell_same x1 ga 1 #[.int .i64 (av : Int), .slice la q lc] 89 (.slice va (q + 1) vc) hkga
                exact this
              · rw [HKZ.out, List.map_append]
                refine ownsRow_of_block ho4 (fun g hg => ?_)
                obtain ⟨cc, hcc⟩ := own_type ho4 hg
                exact heap_setCell_other x1 ⟨ga, 1, none⟩ g _ (fun e => by have e : g = ga := e; subst e; exact ne_ty hkga hcc (by decide) rfl)
            have yb : Below W1.heap.size W1 (x1.setCell ⟨ga, 1, none⟩ (.slice va (q + 1) vc)) := by
              have b1 : Below W1.heap.size W1 x1 := ⟨hg4.os.trans (hA5.os.trans HBR.out.os), hg4.tape.trans (hA5.tape.trans HBR.out.tape), hg4.output.trans (hA5.output.trans HBR.out.output), Nat.le_trans HBR.out.size (Nat.le_trans hA5.size hg4.size), fun k hk => (hlow k (by have := HGA.out; omega)).trans (HBR.out.block k hk)⟩
              exact b1.setCell (p := ⟨ga, 1, none⟩) (by show _ ≤ ga; have := HGA.out; omega) _
            have YK := hide yk
            have YB := hide yb
            clear yk yb hlow ho4 hg4
            refine wpAnyE_last (by kernel_rfl) rfl (by kernel_rfl) (by kernel_rfl) (fun K hK => ?_)
            go_wp2_with (fail)
            refine hK.out _ _ ?_
            clear hK K
            go_wp2_with (fail)
            go_roundw
            case rel => exact ⟨q + 1, _, int_congrP (by omega), by omega, YK.out, YB.out⟩
            case measure => simp [intOf]; omega
          · obtain rfl : q = nk := by omega
            have qI : ¬ (q : Int) < (q : Int) := by omega
            have hkq : ksQ ks q = ks.map (fun z => z % 1000) := by unfold ksQ; rw [List.take_of_length_le (by rw [HNK.out]; exact Nat.le_refl _)]
            rw [hkq] at hkp
            have e0 : wr.cell? ⟨ga, 0, none⟩ = some (.int .i64 (av : Int)) := cell8 hkp.var 0
            have e1 : wr.cell? ⟨ga, 1, none⟩ = some (.slice la q lc) := cell8 hkp.var 1
            have hkv := hkp.keep (by rw [List.length_map, HNK.out]) (fun z hz => by obtain ⟨y, _, rfl⟩ := List.mem_map.1 hz; omega) X.heap.size
            obtain ⟨kvs, r1, r2, r3⟩ := HR.out.below hBr
            have hil : (avL ars i).length = i := avL_len (by rw [HM.out]; omega)
            rw [hil] at r1 r2
            obtain ⟨lva, lvc, hlv⟩ := own_slice r2
            have hAl : Below wr.heap.size wr (wr.alloc (.cells #[.int .i64 (av : Int), .slice la q lc] 89)) := (Below.refl _ wr).alloc (Nat.le_refl _) _
            have hXs : X.heap.size ≤ (wr.alloc (.cells #[.int .i64 (av : Int), .slice la q lc] 89)).heap.size := by have := HB.out.size; have := hBr.size; have := hAl.size; omega
            have HROW := hide (own_below r2 hAl)
            have HKEEP := hide r3
            have HKVN := hide hkv
            have HR1 := hide r1
            have HIL := hide hil
            have HBA := hide (bseq hBr hAl)
            have HALX := hide hAl
            subst hlv
            clear r1 r2 r3 hkv hkp hBr hAl hil hkq
            go_wp2_with (at_builtin; refine wpList_append_own _ rfl _ _ 24 rfl X.heap.size 89 i0 (.agg #[.int .i64 0, .slice none 0 0]) 2 32 armSlice hi0 hi1 hi2 hi3 rfl (by omega) (.slice lva i lvc) i ((kvs.zip (avL ars i)).flatMap armQ) rfl HROW.out ⟨wr.heap.size, 0, none⟩ 1 1 [.int .i64 (av : Int), .slice la q lc] rfl rfl (cell_twoU wr _ _ _) (by simp [Value.oneCell']) (by unfold maxLen; omega) (by omega) hXs ?_; intro v3 w3 hown3 hgrow3 _)
            have hkeep3 : ∀ (k : Nat) (cs : Array Value), wr.heap[k]? = some (.cells cs 3 (0, 0)) → w3.heap[k]? = wr.heap[k]? := fun k cs hk => by
              have hk2 := (HALX.out.block k (lt_of_heap hk)).trans hk
              refine ((hgrow3.block k (lt_of_heap hk2) (fun e => ?_)).trans hk2).trans hk.symm
              obtain ⟨c', hc'⟩ := own_type HROW.out e.symm
              exact ne_ty hk2 hc' (by decide) rfl
            have YQ : Hid (RowQ w3 X.heap.size v3 (avL ars (i + 1))) := by
              refine ⟨kvs ++ [.slice la q lc], ?_, ?_, fun j k x h1 h2 => ?_⟩
              · rw [HBS.out, List.length_append, List.length_append, HR1.out, HIL.out]; rfl
              · rw [HBS.out, List.length_append, HIL.out, List.zip_append (by rw [HR1.out, HIL.out]), List.flatMap_append, HAV.out]
                exact hown3
              · have hkpp : KeepV wr X.heap.size k x.2 := by
                  by_cases hj : j < i
                  · rw [List.getElem?_append_left (by rw [HR1.out]; exact hj)] at h1
                    rw [HBS.out, List.getElem?_append_left (by rw [HIL.out]; exact hj)] at h2
                    exact HKEEP.out j k x h1 h2
                  · have hj2 : j = i := by
                      have := (List.getElem?_eq_some_iff.1 h1).1
                      rw [List.length_append, HR1.out] at this
                      simp at this
                      omega
                    subst hj2
                    rw [List.getElem?_append_right (by rw [HR1.out]; exact Nat.le_refl _), HR1.out, Nat.sub_self] at h1
                    rw [HBS.out, List.getElem?_append_right (by rw [HIL.out]; exact Nat.le_refl _), HIL.out, Nat.sub_self, HAV.out] at h2
                    cases h1
                    cases h2
                    exact HKVN.out
                obtain ⟨ka2, ck2, e, h4⟩ := hkpp
                exact ⟨ka2, ck2, e, h4.keep hkeep3⟩
            have YB : Hid (Below X.heap.size X w3) := by
              have h1 : Below X.heap.size X (wr.alloc (.cells #[.int .i64 (av : Int), .slice la q lc] 89)) := bseq HB.out HBA.out
              exact bel_of_grownT h1 HROW.out hgrow3
            clear hown3 hgrow3 hkeep3
            go_wp2_with (fail)
            go_roundw
            case rel => exact ⟨i + 1, int_congrP (by omega), by omega, by omega, YQ.out, YB.out⟩
            case measure => simp [intOf]; omega
      · have iI6 : ¬ (i : Int) < 6 := by omega
        go_wp2
        go_ret
        obtain ⟨kvs, r1, r2, r3⟩ := hr
        exact ⟨_, rfl, i, him, hi6, ⟨kvs, r1, r2.mono (by omega), r3⟩, bseq HA.out hB⟩
    · have iI : ¬ (i : Int) < (m2 : Int) := by omega
      go_wp2
      go_ret
      obtain ⟨kvs, r1, r2, r3⟩ := hr
      exact ⟨_, rfl, i, him, hi6, ⟨kvs, r1, r2.mono (by omega), r3⟩, bseq HA.out hB⟩
end Go.Proofs.Ytgfgihpkbbjkfaa
namespace Go.Proofs.Ytgfgihpkbbjkfaa
open Go.ChangeShapes Go.WideShapes Go.ChangeAt Go.RowKit
set_option linter.unusedVariables false
set_option maxRecDepth 100000

/-- A list of bytes in a cell. -/
theorem open_data {H : Type} {enc : TypeId × Value → H} {W : World} {fuel : Nat} {a : Option Addr} {l c : Nat} {x : DataW H × List MemPlace} (hf : DataW.trod enc Try.prog W 0 (fun _ => true) true fuel 33 [.slice a l c] = some x) :
    ∃ bs : List Nat, bs.length = l ∧ Sl W a bs ∧ l ≤ c ∧ l ≤ Rows.uptoBulk x.1 := by
  rcases open_ints Try.underlying33 Try.underlying5 (by kernel_rfl) hf with ⟨hcs, hx0⟩ | ⟨ad, l', cap, zs, hcs, _, hl, hm, hzl, hx, hcell, hwz⟩
  · simp at hcs
    obtain ⟨rfl, rfl, rfl⟩ := hcs
    exact ⟨[], rfl, .inl rfl, Nat.le_refl _, Nat.zero_le _⟩
  · simp at hcs
    obtain ⟨rfl, rfl, rfl⟩ := hcs
    simp only [if_true] at hzl
    have hu8 : ∀ z ∈ zs, 0 ≤ z ∧ z < 256 := fun z hz => by have := bounds_u8 (hwz z hz); omega
    refine ⟨(zs.take l).map Int.toNat, by rw [List.length_map, List.length_take]; omega, ?_, hl, ?_⟩
    · by_cases h0 : l = 0
      · subst h0; exact .inl (by simp)
      · obtain ⟨b, off, spot⟩ := ad
        have hc := hcell 0 (by omega)
        have hspot : spot = none := by simpa [Addr.add] using World.cell?_spot hc
        subst hspot
        refine .inr ⟨b, off, rfl, World.block_lt_of_cell? _ _ hc, fun i y hy => ?_⟩
        rw [List.getElem?_map] at hy
        obtain ⟨z, hz, rfl⟩ := Option.map_eq_some_iff.1 hy
        have hi : i < l := by
          have := (List.getElem?_eq_some_iff.1 hz).1
          rw [List.length_take] at this
          omega
        rw [List.getElem?_take, if_pos hi] at hz
        have h1 := hcell i (by omega)
        have e : (⟨b, off, none⟩ : Addr).add i = ⟨b, off + i, none⟩ := by simp [Addr.add]
        rw [e] at h1
        have h2 := hu8 z (List.mem_of_getElem? hz)
        refine ⟨?_, by omega⟩
        rw [h1, List.getD_eq_getElem?_getD, hz]
        congr 2
        simp only [Option.getD_some]
        omega
    · rw [hx]
      have h5 := bulk_len (H := H) (lits .u8 (zs.take l))
      have h6 : (lits (H := H) .u8 (zs.take l)).length = l := by simp [lits]; omega
      simp only [Rows.uptoBulk]
      omega
theorem open_numbers {H : Type} {enc : TypeId × Value → H} {W : World} {fuel : Nat} {a : Option Addr} {l c : Nat} {x : DataW H × List MemPlace} (hf : DataW.trod enc Try.prog W 0 (fun _ => true) true fuel 87 [.slice a l c] = some x) :
    ∃ zs : List Int, zs.length = l ∧ SlZ W a zs ∧ l ≤ Rows.uptoBulk x.1 := by
  rcases open_ints Try.underlying87 Try.underlying3 (by kernel_rfl) hf with ⟨hcs, hx0⟩ | ⟨ad, l', cap, zs, hcs, _, hl, hm, hzl, hx, hcell, hwz⟩
  · simp at hcs
    obtain ⟨rfl, rfl, rfl⟩ := hcs
    exact ⟨[], rfl, ⟨by simp, .inl rfl⟩, Nat.zero_le _⟩
  · simp at hcs
    obtain ⟨rfl, rfl, rfl⟩ := hcs
    simp only [if_true] at hzl
    refine ⟨zs.take l, by rw [List.length_take]; omega, ⟨fun z hz => bounds_i64 (hwz z (List.mem_of_mem_take hz)), ?_⟩, ?_⟩
    · by_cases h0 : l = 0
      · subst h0; exact .inl (by simp)
      · obtain ⟨b, off, spot⟩ := ad
        have hc := hcell 0 (by omega)
        have hspot : spot = none := by simpa [Addr.add] using World.cell?_spot hc
        subst hspot
        refine .inr ⟨b, off, rfl, World.block_lt_of_cell? _ _ hc, fun i y hy => ?_⟩
        have hi : i < l := by
          have := (List.getElem?_eq_some_iff.1 hy).1
          rw [List.length_take] at this
          omega
        rw [List.getElem?_take, if_pos hi] at hy
        have h1 := hcell i (by omega)
        have e : (⟨b, off, none⟩ : Addr).add i = ⟨b, off + i, none⟩ := by simp [Addr.add]
        rw [e] at h1
        rw [h1, List.getD_eq_getElem?_getD, hy]
        rfl
    · rw [hx]
      have h5 := bulk_len (H := H) (lits .i64 (zs.take l))
      have h6 : (lits (H := H) .i64 (zs.take l)).length = l := by simp [lits]; omega
      simp only [Rows.uptoBulk]
      omega
/-- A change as its cells. -/
structure ChV (W : World) where
  ch : ChR
  da : Option Addr
  dc : Nat
def ChV.vals {W : World} (x : ChV W) : List Value := [.int .i64 x.ch.wh, .int .i64 x.ch.ai, .slice x.da x.ch.data.length x.dc, .bool x.ch.fl, .bool x.ch.fe]
def ChV.Ok {W : World} (x : ChV W) (B : Nat) : Prop := (-9223372036854775808 ≤ x.ch.wh ∧ x.ch.wh ≤ 9223372036854775807) ∧ (-9223372036854775808 ≤ x.ch.ai ∧ x.ch.ai ≤ 9223372036854775807) ∧ Sl W x.da x.ch.data ∧ x.ch.data.length ≤ x.dc
theorem change_cells {H : Type} {enc : TypeId × Value → H} {W : World} (fuel : Nat) (cs : List Value) (x : DataW H × List MemPlace)
    (h : DataW.trod enc Try.prog W 0 (fun _ => true) true fuel 93 cs = some x) :
    ∃ s : ChV W, cs = s.vals ∧ s.Ok 0 ∧ s.ch.data.length + 1 ≤ Rows.uptoBulk x.1 := by
  obtain ⟨xs, n, _, hx, hl, hlen, hf⟩ := DataW.trod_struct Try.underlying93 h
  rw [show Try.prog.cellsOf 93 = 5 by kernel_rfl] at hl
  match cs, hl with
  | [c0, c1, c2, c3, c4], _ =>
    match xs, hlen with
    | [y0, y1, y2, y3, y4], _ =>
      have h0 := hf 0 _ rfl
      have h1 := hf 1 _ rfl
      have h2 := hf 2 _ rfl
      have h3 := hf 3 _ rfl
      have h4 := hf 4 _ rfl
      simp [show Try.prog.cellsOf 3 = 1 by kernel_rfl, show Try.prog.cellsOf 33 = 1 by kernel_rfl, show Try.prog.cellsOf 4 = 1 by kernel_rfl] at h0 h1 h2 h3 h4
      obtain ⟨da, dl, dc, rfl⟩ := slice_form Try.underlying33 h2
      obtain ⟨bs, rfl, hs, hc, hb⟩ := open_data h2
      obtain ⟨z0, e0, _, w0⟩ := DataW.trod_int Try.underlying3 h0
      obtain ⟨z1, e1, _, w1⟩ := DataW.trod_int Try.underlying3 h1
      obtain ⟨f3, e3, _⟩ := DataW.trod_bool Try.underlying4 h3
      obtain ⟨f4, e4, _⟩ := DataW.trod_bool Try.underlying4 h4
      simp at e0 e1 e3 e4
      subst e0 e1 e3 e4
      refine ⟨⟨⟨z0, z1, bs, f3, f4⟩, da, dc⟩, rfl, ⟨bounds_i64 w0, bounds_i64 w1, hs, hc⟩, ?_⟩
      have p0 := bulk_pos y0.1
      have p1 := bulk_pos y1.1
      have p3 := bulk_pos y3.1
      have p4 := bulk_pos y4.1
      subst hx
      simp only [List.map_cons, List.map_nil, Rows.uptoBulk, Rows.uptoBulkAll]
      show bs.length + 1 ≤ _
      omega
structure ArV (W : World) where
  af : Int
  zs : List Int
  ka : Option Addr
  kc : Nat
def ArV.vals {W : World} (x : ArV W) : List Value := [.int .i64 x.af, .slice x.ka x.zs.length x.kc]
theorem arm_cells {H : Type} {enc : TypeId × Value → H} {W : World} (fuel : Nat) (cs : List Value) (x : DataW H × List MemPlace)
    (h : DataW.trod enc Try.prog W 0 (fun _ => true) true fuel 89 cs = some x) :
    ∃ s : ArV W, cs = s.vals ∧ ((-9223372036854775808 ≤ s.af ∧ s.af ≤ 9223372036854775807) ∧ SlZ W s.ka s.zs) ∧ s.zs.length + 1 ≤ Rows.uptoBulk x.1 := by
  obtain ⟨xs, n, _, hx, hl, hlen, hf⟩ := DataW.trod_struct Try.underlying89 h
  rw [show Try.prog.cellsOf 89 = 2 by kernel_rfl] at hl
  match cs, hl with
  | [c0, c1], _ =>
    match xs, hlen with
    | [y0, y1], _ =>
      have h0 := hf 0 _ rfl
      have h1 := hf 1 _ rfl
      simp [show Try.prog.cellsOf 3 = 1 by kernel_rfl, show Try.prog.cellsOf 87 = 1 by kernel_rfl] at h0 h1
      obtain ⟨da, dl, dc, rfl⟩ := slice_form Try.underlying87 h1
      obtain ⟨zs, rfl, hs, hb⟩ := open_numbers h1
      obtain ⟨z0, e0, _, w0⟩ := DataW.trod_int Try.underlying3 h0
      simp at e0
      subst e0
      refine ⟨⟨z0, zs, da, dc⟩, rfl, ⟨bounds_i64 w0, hs⟩, ?_⟩
      have p0 := bulk_pos y0.1
      subst hx
      simp only [List.map_cons, List.map_nil, Rows.uptoBulk, Rows.uptoBulkAll]
      show zs.length + 1 ≤ _
      omega
theorem sum_mem {α : Type} (f : α → Nat) : ∀ (l : List α) (x : α), x ∈ l → f x ≤ (l.map f).sum
  | [], x, h => by cases h
  | y :: t, x, h => by
    rw [List.map_cons, List.sum_cons]
    rcases List.mem_cons.1 h with rfl | h
    · omega
    · have := sum_mem f t x h; omega
theorem sum_len {α : Type} (f : α → Nat) : ∀ (l : List α), (∀ x, 1 ≤ f x) → l.length ≤ (l.map f).sum
  | [], _ => Nat.zero_le _
  | y :: t, h => by
    have h1 := sum_len f t h
    have h2 := h y
    rw [List.map_cons, List.sum_cons, List.length_cons]
    omega
theorem open_storyW {H : Type} {enc : TypeId × Value → H} {W : World} {r : Reach} {b0 : Nat} {v : Value} {d : DataW H} {p : List MemPlace}
    (hv : Value.okWide Try.prog W r b0 26 v) (h : DataW.Trod enc Try.prog W 0 (fun _ => true) true 26 v d p) (hB : Rows.uptoBulk d ≤ 1048576) :
    ∃ (a a1 a2 : Option Addr) (m c m1 c1 m2 c2 : Nat) (lg : Bool) (xs : List (Int × Int)) (chs : List ChR) (ars : List (Int × List Int)), v = .agg #[.slice a m c, .slice a1 m1 c1, .slice a2 m2 c2, .bool lg] ∧ SlX W a xs ∧ xs.length = m ∧ SlC W a1 chs ∧ chs.length = m1 ∧ m1 ≤ 1048576 ∧ SlA W a2 ars ∧ ars.length = m2 := by
  obtain ⟨cs, rfl, hsz⟩ := okWide_struct Try.underlying26 hv
  obtain ⟨fuel, hf0⟩ := h
  obtain ⟨a, a1, a2, m, c, m1, c1, m2, c2, lg, xs, e5, hx5, hl5⟩ := story_cells hf0
  have e' : cs.toList = [.slice a m c, .slice a1 m1 c1, .slice a2 m2 c2, .bool lg] := by simpa [Value.cells] using e5
  obtain ⟨ys, n, _, hx, hl, hlen, hf⟩ := DataW.trod_struct Try.underlying26 hf0
  have e6 : (Value.agg cs).cells.toList = [.slice a m c, .slice a1 m1 c1, .slice a2 m2 c2, .bool lg] := e5
  rw [e6] at hf
  match ys, hlen with
  | [y0, y1, y2, y3], _ =>
    have h1 := hf 1 _ rfl
    have h2 := hf 2 _ rfl
    simp [show Try.prog.cellsOf 23 = 1 by kernel_rfl, show Try.prog.cellsOf 24 = 1 by kernel_rfl] at h1 h2
    obtain ⟨us, hul, hur, huq, hub, _⟩ := open_row (fun x : ChV W => x.vals) (fun x _ => x.Ok 0) (fun x => x.ch.data.length + 1) Try.underlying23 (sz := 5) (by kernel_rfl) (by omega) (fun _ => rfl) (fun fuel cs x hh => by obtain ⟨s, q1, q2, q3⟩ := change_cells fuel cs x hh; exact ⟨s, q1, q2, q3⟩) h1
    obtain ⟨vs, hvl, hvr, hvq, hvb, _⟩ := open_row (fun x : ArV W => x.vals) (fun x (_ : DataW H) => (-9223372036854775808 ≤ x.af ∧ x.af ≤ 9223372036854775807) ∧ SlZ W x.ka x.zs) (fun x => x.zs.length + 1) Try.underlying24 (sz := 2) (by kernel_rfl) (by omega) (fun _ => rfl) (fun fuel cs x hh => by obtain ⟨s, q1, q2, q3⟩ := arm_cells fuel cs x hh; exact ⟨s, q1, q2, q3⟩) h2
    have hbulk : Rows.uptoBulk y1.1 + Rows.uptoBulk y2.1 ≤ Rows.uptoBulk d := by
      have p0 := bulk_pos y0.1
      have p3 := bulk_pos y3.1
      simp only [Prod.mk.injEq] at hx
      rw [hx.1]
      simp only [List.map_cons, List.map_nil, Rows.uptoBulk, Rows.uptoBulkAll]
      omega
    have hul2 := sum_len (fun x : ChV W => x.ch.data.length + 1) us (fun _ => by omega)
    refine ⟨a, a1, a2, m, c, m1, c1, m2, c2, lg, xs, us.map (fun x => x.ch), vs.map (fun x => (x.af, x.zs)), ?_, hx5, hl5, ⟨fun x hxm => ?_, ?_⟩, by rw [List.length_map]; exact hul.symm, by omega, ⟨fun x hxm => ?_, ?_⟩, by rw [List.length_map]; exact hvl.symm⟩
    · rw [← Array.toArray_toList (xs := cs), e']
    · obtain ⟨u, hu, rfl⟩ := List.mem_map.1 hxm
      obtain ⟨_, q1, q2, _⟩ := huq u hu
      have := sum_mem (fun x : ChV W => x.ch.data.length + 1) us u hu
      exact ⟨q1, q2, by omega⟩
    · rcases hur with h5 | ⟨g, o, e, hg, hc⟩
      · exact .inl (by rw [h5]; rfl)
      · refine .inr ⟨g, o, e, hg, fun i x hi => ?_⟩
        rw [List.getElem?_map] at hi
        obtain ⟨u, hu, rfl⟩ := Option.map_eq_some_iff.1 hi
        obtain ⟨_, _, _, q3, q4⟩ := huq u (List.mem_of_getElem? hu)
        exact ⟨u.da, u.dc, by have := hc i u hu 0 _ rfl; simpa using this, hc i u hu 1 _ rfl, hc i u hu 2 _ rfl, hc i u hu 3 _ rfl, hc i u hu 4 _ rfl, q3, q4⟩
    · obtain ⟨u, hu, rfl⟩ := List.mem_map.1 hxm
      obtain ⟨_, q1, _⟩ := hvq u hu
      have := sum_mem (fun x : ArV W => x.zs.length + 1) vs u hu
      exact ⟨q1, by show u.zs.length ≤ _; omega⟩
    · rcases hvr with h5 | ⟨g, o, e, hg, hc⟩
      · exact .inl (by rw [h5]; rfl)
      · refine .inr ⟨g, o, e, hg, fun i x hi => ?_⟩
        rw [List.getElem?_map] at hi
        obtain ⟨u, hu, rfl⟩ := Option.map_eq_some_iff.1 hi
        obtain ⟨_, _, q3⟩ := hvq u (List.mem_of_getElem? hu)
        exact ⟨by have := hc i u hu 0 _ rfl; simpa using this, u.ka, u.kc, hc i u hu 1 _ rfl, q3⟩
end Go.Proofs.Ytgfgihpkbbjkfaa
namespace Go.Proofs.Ytgfgihpkbbjkfaa
open Go.RowKit Go.Shelf
set_option linter.unusedVariables false
set_option maxRecDepth 100000

/-- A row of records, each one's bytes somewhere. -/
def RowR (w : World) (v : Value) (rs : List (Nat × List Nat)) : Prop := ∃ a cap, v = .slice a rs.length cap ∧ ∀ (i : Nat) (r : Nat × List Nat), rs[i]? = some r → ∃ gr cur ad oc, a = some ⟨gr, 0, none⟩ ∧ w.heap[gr]? = some (.cells cur 57 (0, 0)) ∧ cur[i * 2]? = some (.int .i64 (r.1 : Int)) ∧ cur[i * 2 + 1]? = some (.slice ad r.2.length oc) ∧ Sl w ad r.2
theorem RowR.below {w w' : World} {v : Value} {rs : List (Nat × List Nat)} (h : RowR w v rs) (hB : Below w.heap.size w w') : RowR w' v rs := by
  obtain ⟨a, cap, rfl, hc⟩ := h
  refine ⟨a, cap, rfl, fun i r hr => ?_⟩
  obtain ⟨gr, cur, ad, oc, h1, h2, h3, h4, h5⟩ := hc i r hr
  exact ⟨gr, cur, ad, oc, h1, (hB.block gr (lt_of_heap h2)).trans h2, h3, h4, h5.below hB⟩
theorem RowC.rowR {w : World} {base : Nat} {v : Value} {rs : List (Nat × List Nat)} {Rs : List Nat} (h : RowC w base v rs Rs) (hb : ∀ r ∈ rs, ∀ y ∈ r.2, y < 256) : RowR w v rs := by
  by_cases h0 : rs = []
  · subst h0
    obtain ⟨a, cap, rfl⟩ := h.nil
    exact ⟨a, cap, rfl, fun i r hr => by simp at hr⟩
  · obtain ⟨gr, cap, cur, rfl, hg, _, hc⟩ := h.slice (by cases rs with | nil => exact absurd rfl h0 | cons x t => simp)
    refine ⟨some ⟨gr, 0, none⟩, cap, rfl, fun i r hr => ?_⟩
    have hi : i < rs.length := (List.getElem?_eq_some_iff.1 hr).1
    have hR : i < Rs.length := by rw [h.len]; exact hi
    obtain ⟨h1, h2⟩ := hc i (r, Rs[i]) (by rw [List.getElem?_zip_eq_some]; exact ⟨hr, List.getElem?_eq_getElem hR⟩)
    obtain ⟨o1, _⟩ := h.own i r Rs[i] hr (List.getElem?_eq_getElem hR)
    exact ⟨gr, cur, _, _, rfl, hg, h1, h2, own_old o1 (hb r (List.mem_of_getElem? hr))⟩
set_option maxHeartbeats 1000000 in
theorem usame_yes {w : World} {v u : Value} {rs : List (Nat × List Nat)} (h : RowR w v rs) (k : RowR w u rs) (hl : rs.length ≤ 4194304) (hb : ∀ r ∈ rs, r.2.length ≤ 4194304) :
    Calls Try.prog 11 #[v, u] w fun e w' => e = .returned (.bool true) ∧ Below w.heap.size w w' := by
  obtain ⟨a, ca, rfl, ha⟩ := h
  obtain ⟨b, cb, rfl, hbb⟩ := k
  obtain ⟨n, hn⟩ : ∃ n, rs.length = n := ⟨_, rfl⟩
  have hne : ((rs.length : Int) != (rs.length : Int)) = false := by simp
  rw [hn] at hne hl ⊢
  have HA := hide ha
  have HBB := hide hbb
  have HN := hide hn
  have HL := hide hb
  clear ha hbb hn hb
  go_enter Try.func11, Try.ntmps11
  go_wp2
  go_loopw [5] (fun iv wr => ∃ k q : Nat, k ≤ n ∧ iv = .int .i64 (k : Int) ∧ wr = w.drewN q) (fun iv _ => n - (intOf iv).toNat)
  case atStart => exact ⟨0, 0, by omega, rfl, rfl⟩
  case round =>
    obtain ⟨k, q, hk, rfl, hwr⟩ := hrel
    by_cases hlt : k < n
    · obtain ⟨r, hr⟩ : ∃ r, rs[k]? = some r := ⟨_, List.getElem?_eq_getElem (by rw [HN.out]; exact hlt)⟩
      obtain ⟨g1, cur1, d1, c1, rfl, hg1, x1, y1, z1⟩ := HA.out k r hr
      obtain ⟨g2, cur2, d2, c2, rfl, hg2, x2, y2, z2⟩ := HBB.out k r hr
      have hrl := HL.out r (List.mem_of_getElem? hr)
      obtain ⟨rx, old⟩ := r
      simp only at x1 y1 z1 x2 y2 z2 hrl
      have hki : (k : Int) < (n : Int) := by omega
      have i1 := index_recU g1 k n ca hlt wr
      have i2 := index_recU g2 k n cb hlt wr
      have p1 : wr.cell? ⟨g1, k * 2, none⟩ = some (.int .i64 (rx : Int)) := by rw [hwr]; exact (cell8 hg1 _).trans x1
      have p2 : wr.cell? ⟨g2, k * 2, none⟩ = some (.int .i64 (rx : Int)) := by rw [hwr]; exact (cell8 hg2 _).trans x2
      have q1 : wr.cell? ⟨g1, k * 2 + 1, none⟩ = some (.slice d1 old.length c1) := by rw [hwr]; exact (cell8 hg1 _).trans y1
      have q2 : wr.cell? ⟨g2, k * 2 + 1, none⟩ = some (.slice d2 old.length c2) := by rw [hwr]; exact (cell8 hg2 _).trans y2
      have KE := hide (fun W (e1 : Sl W d1 old) (e2 : Sl W d2 old) => eqBytes_any d1 d2 c1 c2 old old W e1 e2 (by omega))
      have Z1 := hide (show Sl wr d1 old by rw [hwr]; exact z1)
      have Z2 := hide (show Sl wr d2 old by rw [hwr]; exact z2)
      have HWR := hide hwr
      have hb1 : ((rx : Int) != (rx : Int)) = false := by simp
      have hdd : decide (old = old) = true := by simp
      rw [hdd] at KE
      generalize old.length = ln at *
      clear hg1 hg2 x1 y1 z1 x2 y2 z2 hr hdd hwr
      go_wp2_with (fail)
      go_quiet ((go_at_call 22; refine Calls.quiet_of (KE.out _ Z1.out Z2.out)))
      go_wp2_with (fail)
      go_roundw
      case rel => exact ⟨k + 1, q + nq, by omega, by go_num, by rw [HWR.out, World.drewN_drewN]⟩
      case measure => simp [intOf]; omega
    · have hkk : (n : Int) ≤ (k : Int) := by omega
      go_wp2_with (fail)
      go_ret
      exact ⟨rfl, below_drewN (Below.refl _ _) q⟩
theorem usame_no {w : World} {a b : Option Addr} {n k ca cb : Nat} (h : n ≠ k) : Calls Try.prog 11 #[.slice a n ca, .slice b k cb] w fun e w' => e = .returned (.bool false) ∧ w' = w := by
  have hne : ((n : Int) != (k : Int)) = true := by simp; omega
  go_enter Try.func11, Try.ntmps11
  go_wp2
  go_ret
  exact ⟨rfl, rfl⟩
end Go.Proofs.Ytgfgihpkbbjkfaa
namespace Go.Proofs.Ytgfgihpkbbjkfaa
open Go.RowKit Go.Shelf
set_option linter.unusedVariables false

/-- What the document's device stands for: of each line its contents, the durable one first; which of them was flushed last (-1: none). -/
structure RSt where
  n : Nat
  con : Nat → List (List Nat)
  mark : Nat → Int
  ops : Nat
  cnt : Nat
  gone : Bool
structure RSt.Ok (ρ : RSt) : Prop where
  pos : 1 ≤ ρ.n
  max : ρ.n ≤ 65536
  ne : ∀ i, i < ρ.n → ρ.con i ≠ []
  few : ∀ i, i < ρ.n → (ρ.con i).length ≤ 1400000000001
  len : ∀ i c, i < ρ.n → c ∈ ρ.con i → c.length = 64
  byte : ∀ i c, i < ρ.n → c ∈ ρ.con i → ∀ x ∈ c, x < 256
/-- Where its parts lie. -/
structure RLay where
  lb : Nat
  lc : Nat
  ab : Nat → Nat
  ao : Nat → Nat
  ac : Nat → Nat
  cb : Nat → Nat → Nat
  av : Value
def refC (M : RLay) (ρ : RSt) : Array Value := #[.int .i64 ((64 * ρ.n : Nat) : Int), .slice (some ⟨M.lb, 0, none⟩) ρ.n M.lc, .int .i64 (ρ.ops : Int), M.av, .int .i64 (ρ.cnt : Int), .bool ρ.gone]
/-- Its blocks. -/
def RFoot (b : Nat) (M : RLay) (ρ : RSt) (k : Nat) : Prop := k = b ∨ k = M.lb ∨ (∃ i, i < ρ.n ∧ k = M.ab i) ∨ ∃ i j, i < ρ.n ∧ j < (ρ.con i).length ∧ k = M.cb i j
section
variable {w w' : World} {b : Nat} {M : RLay} {ρ : RSt}
end
theorem index_rrow (g o i len cap : Nat) (hi : i < len) (w : World) : (Instr.indexAt 151 (.slice (some ⟨g, o, none⟩) len cap) (.int .i64 (i : Int))).run Try.prog w = .ok (.pointer (some ⟨g, o + i, none⟩)) w := by
  have h := index_at (t := 151) (e := 33) (sz := 1) Try.underlying151 (by kernel_rfl) g o i len cap hi w
  rwa [Nat.mul_one] at h
/-- As a device stands for it. -/
def rOf (σ : St) (mk : Nat → Int) : RSt := ⟨σ.n, fun i => σ.past i ++ [σ.line i], mk, σ.ops, σ.cnt, σ.off⟩
theorem rOf_ok {σ : St} (h : σ.Ok) (mk : Nat → Int) : (rOf σ mk).Ok where
  pos := h.pos
  max := h.max
  ne := fun i hi => by simp [rOf]
  few := fun i hi => by
    have := h.few i
    have := h.opsm
    simp [rOf]
    omega
  len := fun i c hi hc => by
    rcases List.mem_append.1 hc with h1 | h1
    · exact h.clen i c h1
    · rw [List.mem_singleton.1 h1]; exact line_len h hi
  byte := fun i c hi hc => by
    rcases List.mem_append.1 hc with h1 | h1
    · exact h.cbyte i c h1
    · rw [List.mem_singleton.1 h1]; exact fun x hx => h.byte x (line_mem hx)
end Go.Proofs.Ytgfgihpkbbjkfaa
namespace Go.Proofs.Ytgfgihpkbbjkfaa
open Go.RowKit Go.Shelf
set_option linter.unusedVariables false

theorem infoB8 : ∃ i, Try.prog.info? 5 = some i ∧ i.zero = some (.int .u8 0) ∧ i.size = 1 ∧ i.bytes = 1 := by
  have h : (Try.prog.info? 5).map (fun i => (i.zero, i.size, i.bytes)) = some (some (.int .u8 0), 1, 1) := by kernel_rfl
  obtain ⟨i, h1, h2⟩ := Option.map_eq_some_iff.1 h
  simp only [Prod.mk.injEq] at h2
  exact ⟨i, h1, h2.1, h2.2.1, h2.2.2⟩
theorem index_b8 (g i len cap : Nat) (hi : i < len) (w : World) : (Instr.indexAt 33 (.slice (some ⟨g, 0, none⟩) len cap) (.int .i64 (i : Int))).run Try.prog w = .ok (.pointer (some ⟨g, i, none⟩)) w := by
  have h := index_at (t := 33) (e := 5) (sz := 1) Try.underlying33 (by kernel_rfl) g 0 i len cap hi w
  rwa [Nat.mul_one, Nat.zero_add] at h
section
variable {w : World} {b : Nat} {M : RLay} {σ : St} {mk : Nat → Int}
end
end Go.Proofs.Ytgfgihpkbbjkfaa
namespace Go.Proofs.Ytgfgihpkbbjkfaa
open Go.RowKit Go.Shelf
set_option linter.unusedVariables false

theorem wpAnyH_doS {P : Program} {ops : Array Oper} {Q : Exit → Act → World → Prop} {md : Region.Mode} {S : World → Prop} {i : Nat} {o : Oper} {fuel : Nat} {listed : Array Bool} {a : Act} {w : World} (hr : Region.ready md ops listed = [i]) (ho : ops[i]? = some o) (hw : Region.wanted o (yielded ops a.tmps) = true)
    (h : ∀ K' : Act → World → Prop, Shut (∀ a w, S w → wpAnyH P md ops Q S fuel (listed.setIfInBounds i true) a w → K' a w) → Oper.wp P o a w K' Q) : wpAnyH P md ops Q S (fuel + 1) listed a w := by
  refine wpAnyH_ready (rs := [i]) hr (by simp) (AllReadyH.cons ho (fun K hK => ?_) AllReadyH.nil)
  rw [if_pos hw]
  exact h K (fun a w hs hq => hK a w hs (fun _ => hq))
/-- May a device have that size? -/
def fitS (x : Int) : Prop := 64 ≤ x ∧ x ≤ 4194304 ∧ x % 64 = 0
theorem slice_mid (g o d e n cap : Nat) (hd : d + e ≤ n) (he : 1 ≤ e) (hn : n ≤ cap) (hsm : n ≤ 4194304) (w : World) : (Instr.sliceAt 33 (.slice (some ⟨g, o, none⟩) n cap) (some (.int .i64 (d : Int))) (some (.int .i64 ((d : Int) + (e : Int)))) none).run Try.prog w = .ok (.slice (some ⟨g, o + d, none⟩) e (cap - d)) w := by
  obtain ⟨it, h1, h2⟩ := info_of (t := 5) (n := 1) (by kernel_rfl)
  have hu : Try.prog.underlying 33 = some (.slice 5) := by kernel_rfl
  have c1 : (0 : Int) ≤ (d : Int) + (e : Int) ∧ (d : Int) + (e : Int) ≤ (cap : Int) := by omega
  have c2 : (0 : Int) ≤ (d : Int) ∧ (d : Int) ≤ (d : Int) + (e : Int) := by omega
  have e1 : ((d : Int) + (e : Int)).toNat = d + e := by omega
  have e2 : d + e - d = e := by omega
  have e3 : ¬ cap = d := by omega
  simp [Instr.sliceAt, Instr.slice, Sem.run_bind, run_underlying hu, Instr.sliceBounds, Instr.sliceBound, asIntOf, sizeOf, typeInfo, h1, h2, Addr.add_mid, c1, c2, e1, e2, e3]
end Go.Proofs.Ytgfgihpkbbjkfaa
namespace Go.Proofs.Ytgfgihpkbbjkfaa
open Go.RowKit Go.Shelf
set_option linter.unusedVariables false
set_option maxRecDepth 100000

/-- The cells of records whose bytes lie at blocks of their own. -/
def oldC (B : List Nat) (x : Int × Int) (C : Nat) : List Value := [.int .i64 x.1, .slice (some ⟨C, 0, none⟩) (oldOf B x).length (oldOf B x).length]
structure OldR (w : World) (base : Nat) (v : Value) (B : List Nat) (xs : List (Int × Int)) (Cs : List Nat) : Prop where
  len : Cs.length = xs.length
  row : w.ownsRow base 57 2 v xs.length ((xs.zip Cs).flatMap (fun p => oldC B p.1 p.2))
  own : ∀ (i : Nat) (x : Int × Int) (C : Nat), xs[i]? = some x → Cs[i]? = some C → OwnB w C (oldOf B x) ∧ base ≤ C
theorem oldC_get {B : List Nat} : ∀ (l : List ((Int × Int) × Nat)) (i : Nat) (p : (Int × Int) × Nat), l[i]? = some p → (l.flatMap (fun p => oldC B p.1 p.2))[i * 2]? = some (.int .i64 p.1.1) ∧ (l.flatMap (fun p => oldC B p.1 p.2))[i * 2 + 1]? = some (.slice (some ⟨p.2, 0, none⟩) (oldOf B p.1).length (oldOf B p.1).length)
  | [], i, p, h => by simp at h
  | y :: t, 0, p, h => by simp at h; subst h; exact ⟨rfl, rfl⟩
  | y :: t, i + 1, p, h => by
    have h1 := oldC_get (B := B) t i p (by simpa using h)
    have e : ((y :: t).flatMap (fun p => oldC B p.1 p.2)) = .int .i64 y.1.1 :: .slice (some ⟨y.2, 0, none⟩) (oldOf B y.1).length (oldOf B y.1).length :: t.flatMap (fun p => oldC B p.1 p.2) := rfl
    rw [e, show (i + 1) * 2 = i * 2 + 1 + 1 by omega]
    exact h1
theorem OldR.rowR {w : World} {base : Nat} {v : Value} {B : List Nat} {xs : List (Int × Int)} {Cs : List Nat} (h : OldR w base v B xs Cs) (hb : ∀ y ∈ B, y < 256) (h0 : ∀ x ∈ xs, 0 ≤ x.1) : RowR w v (recL B xs) := by
  have hl := recL_len B xs
  rcases h.row.2 with ⟨rfl, e⟩ | ⟨g, cp, cur, rfl, h1, h2, h3, h4, h5, h6⟩
  · refine ⟨none, 0, by rw [hl, e], fun i r hr => ?_⟩
    have := (List.getElem?_eq_some_iff.1 hr).1
    omega
  · refine ⟨some ⟨g, 0, none⟩, cp, by rw [hl], fun i r hr => ?_⟩
    have hi : i < xs.length := by have := (List.getElem?_eq_some_iff.1 hr).1; omega
    have hC : i < Cs.length := by rw [h.len]; exact hi
    have hx : xs[i]? = some xs[i] := List.getElem?_eq_getElem hi
    have hCC : Cs[i]? = some Cs[i] := List.getElem?_eq_getElem hC
    have hr2 : r = (xs[i].1.toNat, oldOf B xs[i]) := by
      unfold recL at hr
      rw [List.getElem?_map, hx] at hr
      simpa using hr.symm
    obtain ⟨c0, c1⟩ := oldC_get (B := B) (xs.zip Cs) i (xs[i], Cs[i]) (by rw [List.getElem?_zip_eq_some]; exact ⟨hx, hCC⟩)
    rw [← h6, List.getElem?_take, if_pos (by omega), Array.getElem?_toList] at c0 c1
    have hp := h0 xs[i] (List.getElem_mem hi)
    subst hr2
    refine ⟨g, cur, _, _, rfl, h2, ?_, c1, (h.own i _ _ hx hCC).1.sl ?_⟩
    · rw [c0]
      simp only
      rw [show ((xs[i].1.toNat : Nat) : Int) = xs[i].1 by omega]
    · intro y hy
      unfold oldOf at hy
      exact hb y (List.mem_of_mem_drop (List.mem_of_mem_take hy))
theorem recs_info : ∃ i, Try.prog.info? 57 = some i ∧ i.zero = some (.agg #[.int .i64 0, .slice none 0 0]) ∧ i.size = 2 ∧ i.bytes = 32 := infoRec
set_option maxHeartbeats 2000000 in
theorem uolds_own {w : World} {R m ic c : Nat} {B : List Nat} {ea : Option Addr} {xs : List (Int × Int)} (hO : OwnB w R B) (hBl : B.length = 1024) (hic : 1024 ≤ ic) (hb : ∀ y ∈ B, y < 256) (h : SlE w ea xs) (hm : xs.length = m) (hm5 : m ≤ 1000) (hx : ∀ x ∈ xs, 0 ≤ x.1 ∧ 1 ≤ x.2 ∧ x.1 + x.2 ≤ 1024) :
    Calls Try.prog 12 #[.slice (some ⟨R, 0, none⟩) 1024 ic, .slice ea m c] w fun e w' => ∃ v, e = .returned v ∧ (∃ Cs, OldR w' w.heap.size v B xs Cs) ∧ Below w.heap.size w w' := by
  obtain ⟨i0, hi0, hz0, hz1, hz2⟩ := infoRec
  have HO := hide hO
  have HBL := hide hBl
  have HB8 := hide hb
  have HH := hide h
  have HM := hide hm
  have HX := hide hx
  clear hO hBl hb h hm hx
  go_enter Try.func12, Try.ntmps12
  go_wp2
  go_loopw [5, 6] (fun lv iv wr => ∃ (i : Nat) (Cs : List Nat), iv = .int .i64 (i : Int) ∧ i ≤ m ∧ OldR wr w.heap.size lv B (xs.take i) Cs ∧ Below w.heap.size w wr) (fun _ iv _ => (m - (intOf iv).toNat))
  case atStart => exact ⟨0, [], rfl, Nat.zero_le _, ⟨rfl, ⟨rfl, .inl ⟨rfl, rfl⟩⟩, fun i x C h1 => by simp at h1⟩, Below.refl _ _⟩
  case round =>
    obtain ⟨i, Cs, rfl, him, hrow, hBw⟩ := hrel
    by_cases hlt : i < m
    · have iI : (i : Int) < (m : Int) := by omega
      obtain ⟨xx, hxx⟩ : ∃ x, xs[i]? = some x := ⟨_, List.getElem?_eq_getElem (by rw [HM.out]; exact hlt)⟩
      have hts : xs.take (i + 1) = xs.take i ++ [xx] := by rw [List.take_add_one, hxx]; rfl
      obtain ⟨b1, b2, b3⟩ := HX.out xx (List.mem_of_getElem? hxx)
      obtain ⟨x, y⟩ := xx
      simp only at b1 b2 b3
      obtain ⟨xn, rfl⟩ : ∃ xn : Nat, x = (xn : Int) := ⟨x.toNat, by omega⟩
      obtain ⟨yn, rfl⟩ : ∃ yn : Nat, y = (yn : Int) := ⟨y.toNat, by omega⟩
      have eold : oldOf B ((xn : Int), (yn : Int)) = (B.drop xn).take yn := rfl
      have hol : ((B.drop xn).take yn).length = yn := by rw [List.length_take, List.length_drop, HBL.out]; omega
      obtain ⟨g, o, cc, rfl, hg, hcc⟩ : ∃ g o cc, ea = some ⟨g, o, none⟩ ∧ w.heap[g]? = some (.cells cc 52 (0, 0)) ∧ ∀ (i : Nat) (x l : Int), xs[i]? = some (x, l) → cc[o + i * 2]? = some (.int .i64 x) ∧ cc[o + i * 2 + 1]? = some (.int .i64 l) := by
        rcases HH.out.2 with e | ⟨g, o, cc, h1, h2, h3⟩
        · rw [e] at hxx; simp at hxx
        · exact ⟨g, o, cc, h1, h2, h3⟩
      have hgr : wr.heap[g]? = some (.cells cc 52 (0, 0)) := (hBw.block g (lt_of_heap hg)).trans hg
      have hgl := lt_of_heap hgr
      have s0 : wr.drew.cell? ⟨g, o + i * 2, none⟩ = some (.int .i64 (xn : Int)) ∧ wr.drew.cell? ⟨g, o + i * 2 + 1, none⟩ = some (.int .i64 (yn : Int)) := ⟨(cell8 (w := wr.drew) hgr _).trans (hcc i _ _ hxx).1, (cell8 (w := wr.drew) hgr _).trans (hcc i _ _ hxx).2⟩
      have S0 := hide s0
      have HGR := hide hgr
      have IX := hide (fun X => index_ext g o i m c hlt X)
      have SLc : Hid (∀ X, (Instr.sliceAt 33 (.slice (some ⟨R, 0, none⟩) 1024 ic) (some (.int .i64 (xn : Int))) (some (.int .i64 ((xn : Int) + (yn : Int)))) none).run Try.prog X = .ok (.slice (some ⟨R, xn, none⟩) yn (ic - xn)) X) := fun X => by have h := slice_mid R 0 xn yn 1024 ic (by omega) (by omega) hic (by omega) X; rwa [Nat.zero_add] at h
      have WM : Hid (IntKind.i64.wrap ((xn : Int) + (yn : Int)) = (xn : Int) + (yn : Int)) := by show IntKind.i64.wrap _ = _; rw [IntKind.wrap_i64]; omega
      have hOr : OwnB wr R B := HO.out.below hBw HO.out.lt
      have hsw : Sl wr.drew (some ⟨R, xn, none⟩) ((B.drop xn).take yn) := .inr ⟨R, xn, rfl, lt_of_heap hOr, fun q z hz => by
        rw [List.getElem?_take] at hz
        split at hz
        · rw [List.getElem?_drop] at hz
          exact ⟨hOr.cell _ _ hz, HB8.out z (List.mem_of_getElem? hz)⟩
        · cases hz⟩
      have kc := copyBytes_any (some ⟨R, xn, none⟩) (ic - xn) ((B.drop xn).take yn) wr.drew hsw (by rw [hol]; omega)
      rw [hol] at kc
      generalize (B.drop xn).take yn = old at *
      have KC := hide kc
      have HROW := hide hrow
      have HBW := hide hBw
      have HTS := hide hts
      have HOL := hide hol
      have HEO := hide eold
      have hil : (xs.take i).length = i := by rw [List.length_take, HM.out]; omega
      have HIL := hide hil
      have hCl := hrow.len
      rw [hil] at hCl
      clear kc hrow hBw hts hol eold hsw hOr hgr hcc hxx s0 hil hg
      go_wp2_with (fail)
      try go_frame
      refine wp_region_held_drew (S := fun Y => Y.cell? ⟨g, o + i * 2, none⟩ = some (.int .i64 (xn : Int)) ∧ Y.cell? ⟨g, o + i * 2 + 1, none⟩ = some (.int .i64 (yn : Int))) (by kernel_rfl) S0.out (fun hS => ?_)
      refine wpAnyH_take (i := 0) (v := u5) rfl (by kernel_rfl) (by kernel_rfl) (by kernel_rfl) (fun _ _ _ h => h) (Or.inl ⟨by kernel_rfl, fun w' hw => by (go_simp)⟩) hS ?_
      refine wpAnyH_take (i := 1) (v := (.slice (some ⟨g, o, none⟩) m c)) rfl (by kernel_rfl) (by kernel_rfl) (by kernel_rfl) (fun _ _ _ h => h) (Or.inl ⟨by kernel_rfl, fun w' hw => by (go_simp)⟩) hS ?_
      refine wpAnyH_take (i := 2) (v := (.int .i64 (i : Int))) rfl (by kernel_rfl) (by kernel_rfl) (by kernel_rfl) (fun _ _ _ h => h) (Or.inl ⟨by kernel_rfl, fun w' hw => by (go_simp)⟩) hS ?_
      refine wpAnyH_take (i := 3) (v := (.pointer (some ⟨g, o + i * 2, none⟩))) rfl (by kernel_rfl) (by kernel_rfl) (by kernel_rfl) (fun _ _ _ h => h) (Or.inl ⟨by kernel_rfl, fun w' hw => by (have e := IX.out w'; go_simp)⟩) hS ?_
      refine wpAnyH_take (i := 4) (v := (.pointer (some ⟨g, o + i * 2, none⟩))) rfl (by kernel_rfl) (by kernel_rfl) (by kernel_rfl) (fun _ _ _ h => h) (Or.inl ⟨by kernel_rfl, fun w' hw => by (go_simp)⟩) hS ?_
      refine wpAnyH_take (i := 5) (v := (.int .i64 (xn : Int))) rfl (by kernel_rfl) (by kernel_rfl) (by kernel_rfl) (fun _ _ _ h => h) (Or.inl ⟨by kernel_rfl, fun w' hw => by (have e0 := hw.1; go_simp)⟩) hS ?_
      refine wpAnyH_take (i := 6) (v := (.slice (some ⟨R, 0, none⟩) 1024 ic)) rfl (by kernel_rfl) (by kernel_rfl) (by kernel_rfl) (fun _ _ _ h => h) (Or.inl ⟨by kernel_rfl, fun w' hw => by (go_simp)⟩) hS ?_
      refine wpAnyH_take (i := 7) (v := (.slice (some ⟨g, o, none⟩) m c)) rfl (by kernel_rfl) (by kernel_rfl) (by kernel_rfl) (fun _ _ _ h => h) (Or.inl ⟨by kernel_rfl, fun w' hw => by (go_simp)⟩) hS ?_
      refine wpAnyH_take (i := 8) (v := (.int .i64 (i : Int))) rfl (by kernel_rfl) (by kernel_rfl) (by kernel_rfl) (fun _ _ _ h => h) (Or.inl ⟨by kernel_rfl, fun w' hw => by (go_simp)⟩) hS ?_
      refine wpAnyH_take (i := 9) (v := (.pointer (some ⟨g, o + i * 2, none⟩))) rfl (by kernel_rfl) (by kernel_rfl) (by kernel_rfl) (fun _ _ _ h => h) (Or.inl ⟨by kernel_rfl, fun w' hw => by (have e := IX.out w'; go_simp)⟩) hS ?_
      refine wpAnyH_take (i := 10) (v := (.pointer (some ⟨g, o + i * 2, none⟩))) rfl (by kernel_rfl) (by kernel_rfl) (by kernel_rfl) (fun _ _ _ h => h) (Or.inl ⟨by kernel_rfl, fun w' hw => by (go_simp)⟩) hS ?_
      refine wpAnyH_take (i := 11) (v := (.int .i64 (xn : Int))) rfl (by kernel_rfl) (by kernel_rfl) (by kernel_rfl) (fun _ _ _ h => h) (Or.inl ⟨by kernel_rfl, fun w' hw => by (have e0 := hw.1; go_simp)⟩) hS ?_
      refine wpAnyH_take (i := 12) (v := (.slice (some ⟨g, o, none⟩) m c)) rfl (by kernel_rfl) (by kernel_rfl) (by kernel_rfl) (fun _ _ _ h => h) (Or.inl ⟨by kernel_rfl, fun w' hw => by (go_simp)⟩) hS ?_
      refine wpAnyH_take (i := 13) (v := (.int .i64 (i : Int))) rfl (by kernel_rfl) (by kernel_rfl) (by kernel_rfl) (fun _ _ _ h => h) (Or.inl ⟨by kernel_rfl, fun w' hw => by (go_simp)⟩) hS ?_
      refine wpAnyH_take (i := 14) (v := (.pointer (some ⟨g, o + i * 2, none⟩))) rfl (by kernel_rfl) (by kernel_rfl) (by kernel_rfl) (fun _ _ _ h => h) (Or.inl ⟨by kernel_rfl, fun w' hw => by (have e := IX.out w'; go_simp)⟩) hS ?_
      refine wpAnyH_take (i := 15) (v := (.pointer (some ⟨g, o + i * 2, none⟩))) rfl (by kernel_rfl) (by kernel_rfl) (by kernel_rfl) (fun _ _ _ h => h) (Or.inl ⟨by kernel_rfl, fun w' hw => by (go_simp)⟩) hS ?_
      refine wpAnyH_take (i := 16) (v := (.int .i64 (xn : Int))) rfl (by kernel_rfl) (by kernel_rfl) (by kernel_rfl) (fun _ _ _ h => h) (Or.inl ⟨by kernel_rfl, fun w' hw => by (have e0 := hw.1; go_simp)⟩) hS ?_
      refine wpAnyH_take (i := 17) (v := (.slice (some ⟨g, o, none⟩) m c)) rfl (by kernel_rfl) (by kernel_rfl) (by kernel_rfl) (fun _ _ _ h => h) (Or.inl ⟨by kernel_rfl, fun w' hw => by (go_simp)⟩) hS ?_
      refine wpAnyH_take (i := 18) (v := (.int .i64 (i : Int))) rfl (by kernel_rfl) (by kernel_rfl) (by kernel_rfl) (fun _ _ _ h => h) (Or.inl ⟨by kernel_rfl, fun w' hw => by (go_simp)⟩) hS ?_
      refine wpAnyH_take (i := 19) (v := (.pointer (some ⟨g, o + i * 2, none⟩))) rfl (by kernel_rfl) (by kernel_rfl) (by kernel_rfl) (fun _ _ _ h => h) (Or.inl ⟨by kernel_rfl, fun w' hw => by (have e := IX.out w'; go_simp)⟩) hS ?_
      refine wpAnyH_take (i := 20) (v := (.pointer (some ⟨g, o + i * 2 + 1, none⟩))) rfl (by kernel_rfl) (by kernel_rfl) (by kernel_rfl) (fun _ _ _ h => h) (Or.inl ⟨by kernel_rfl, fun w' hw => by (go_simp)⟩) hS ?_
      refine wpAnyH_take (i := 21) (v := (.int .i64 (yn : Int))) rfl (by kernel_rfl) (by kernel_rfl) (by kernel_rfl) (fun _ _ _ h => h) (Or.inl ⟨by kernel_rfl, fun w' hw => by (have e0 := hw.2; go_simp)⟩) hS ?_
      refine wpAnyH_take (i := 22) (v := (.int .i64 ((xn : Int) + (yn : Int)))) rfl (by kernel_rfl) (by kernel_rfl) (by kernel_rfl) (fun _ _ _ h => h) (Or.inl ⟨by kernel_rfl, fun w' hw => by (have wm := WM.out; go_simp)⟩) hS ?_
      refine wpAnyH_take (i := 23) (v := (.slice (some ⟨R, xn, none⟩) yn (ic - xn))) rfl (by kernel_rfl) (by kernel_rfl) (by kernel_rfl) (fun _ _ _ h => h) (Or.inl ⟨by kernel_rfl, fun w' hw => by (have e := SLc.out w'; go_simp)⟩) hS ?_
      refine wpAnyH_goS (i := 24) (by kernel_rfl) rfl (by kernel_rfl) (fun K hK => ?_)
      go_wp2_with (go_at_call 36; refine (KC.out).mono ?_; rintro e W1 ⟨rfl, ho1, hb1⟩; replace ho1 : OwnB W1 wr.heap.size old := ho1; have HO1 := hide ho1; have HB1 := hide (bseq (Below.refl _ wr).drew hb1 : Below wr.heap.size wr W1); clear ho1 hb1)
      have hS1 := (show W1.cell? ⟨g, o + i * 2, none⟩ = some (.int .i64 (xn : Int)) ∧ W1.cell? ⟨g, o + i * 2 + 1, none⟩ = some (.int .i64 (yn : Int)) from ⟨(HB1.out.cell (p := ⟨g, o + i * 2, none⟩) hgl).trans S0.out.1, (HB1.out.cell (p := ⟨g, o + i * 2 + 1, none⟩) hgl).trans S0.out.2⟩)
      refine hK.out _ _ hS1 ?_
      clear hK K
      refine wpAnyH_take (i := 25) (v := (.agg #[.int .i64 (xn : Int), .slice (some ⟨wr.heap.size, 0, none⟩) yn yn])) rfl (by kernel_rfl) (by kernel_rfl) (by kernel_rfl) (fun _ _ _ h => h) (Or.inl ⟨by kernel_rfl, fun w' hw => by (go_simp)⟩) hS1 ?_
      have HGC0 := hide ((HB1.out.block g hgl).trans HGR.out)
      have hgl1 : g < W1.heap.size := Nat.lt_of_lt_of_le hgl HB1.out.size
      have hA1 : Below W1.heap.size W1 (W1.alloc (.cells #[.int .i64 (xn : Int), .slice (some ⟨wr.heap.size, 0, none⟩) yn yn] 57)) := (Below.refl _ W1).alloc (Nat.le_refl _) _
      refine wpAnyH_goS (i := 26) (by kernel_rfl) rfl (by kernel_rfl) (fun K hK => ?_)
      go_wp2_with (fail)
      have hS2 : (W1.alloc (.cells #[.int .i64 (xn : Int), .slice (some ⟨wr.heap.size, 0, none⟩) yn yn] 57)).cell? ⟨g, o + i * 2, none⟩ = some (.int .i64 (xn : Int)) ∧ (W1.alloc (.cells #[.int .i64 (xn : Int), .slice (some ⟨wr.heap.size, 0, none⟩) yn yn] 57)).cell? ⟨g, o + i * 2 + 1, none⟩ = some (.int .i64 (yn : Int)) := ⟨(hA1.cell (p := ⟨g, o + i * 2, none⟩) hgl1).trans hS1.1, (hA1.cell (p := ⟨g, o + i * 2 + 1, none⟩) hgl1).trans hS1.2⟩
      refine hK.out _ _ hS2 ?_
      clear hK K
      have HB2 := hide (bseq HB1.out hA1)
      have HGC := hide ((hA1.block g hgl1).trans HGC0.out)
      have hrow2 := own_below HROW.out.row HB2.out
      rw [HIL.out] at hrow2
      have HR2 := hide hrow2
      have HBW2 := hide (bseq HBW.out HB2.out)
      have hsz2 : w.heap.size ≤ (W1.alloc (.cells #[.int .i64 (xn : Int), .slice (some ⟨wr.heap.size, 0, none⟩) yn yn] 57)).heap.size := HBW2.out.size
      have HOA := hide (HO1.out.below hA1 HO1.out.lt)
      clear hrow2 hA1
      refine wpAnyH_goS (i := 27) (by kernel_rfl) rfl (by kernel_rfl) (fun K hK => ?_)
      refine wp_append_at (.tmp 13) (.tmp 39) 38 (by kernel_rfl) w.heap.size 57 i0 (.agg #[.int .i64 0, .slice none 0 0]) 2 32 Try.underlying38 hi0 hz0 hz1 hz2 rfl (by decide) u5 i (((xs.take i).zip Cs).flatMap (fun p => oldC B p.1 p.2)) (by kernel_rfl) HR2.out ⟨W1.heap.size, 0, none⟩ 1 1 [.int .i64 (xn : Int), .slice (some ⟨wr.heap.size, 0, none⟩) yn yn] (by kernel_rfl) rfl (cell_twoU W1 _ _ _) (by simp [Value.oneCell']) (by unfold maxLen; omega) (by omega) hsz2 ?_
      intro v1 x1 ho3 hg3 _ _
      have HO3 := hide ho3
      have HG3 := hide hg3
      clear ho3 hg3
      have hbx := bel_of_grownT HBW2.out HR2.out HG3.out
      have hkeep : ∀ (k : Nat) (cs : Array Value) (t : TypeId) (f : Nat × Nat), (W1.alloc (.cells #[.int .i64 (xn : Int), .slice (some ⟨wr.heap.size, 0, none⟩) yn yn] 57)).heap[k]? = some (.cells cs t f) → t ≠ 57 → x1.heap[k]? = some (.cells cs t f) := fun k cs t f hk ht => by
        refine (HG3.out.block k (lt_of_heap hk) (fun e => ?_)).trans hk
        obtain ⟨c', hc'⟩ := own_type HR2.out e.symm
        exact ne_ty hk hc' ht rfl
      have hge := hS2
      have hS3 : x1.cell? ⟨g, o + i * 2, none⟩ = some (.int .i64 (xn : Int)) ∧ x1.cell? ⟨g, o + i * 2 + 1, none⟩ = some (.int .i64 (yn : Int)) := by
        have hgx : x1.heap[g]? = (W1.alloc (.cells #[.int .i64 (xn : Int), .slice (some ⟨wr.heap.size, 0, none⟩) yn yn] 57)).heap[g]? := by
          have hga := HGC.out
          rw [hkeep g _ _ _ hga (by decide), hga]
        exact ⟨(World.cell?_of_block (a := ⟨g, o + i * 2, none⟩) hgx).trans hge.1, (World.cell?_of_block (a := ⟨g, o + i * 2 + 1, none⟩) hgx).trans hge.2⟩
      refine hK.out _ _ hS3 ?_
      clear hK K
      have yr : OldR x1 w.heap.size v1 B (xs.take (i + 1)) (Cs ++ [wr.heap.size]) := by
        rw [HTS.out]
        refine ⟨by rw [List.length_append, List.length_append, hCl, HIL.out]; rfl, ?_, ?_⟩
        · have h7 := HO3.out
          rw [List.length_append, HIL.out, List.zip_append (by rw [hCl, HIL.out]), List.flatMap_append]
          have e9 : (([((xn : Int), (yn : Int))] : List (Int × Int)).zip [wr.heap.size]).flatMap (fun p => oldC B p.1 p.2) = [.int .i64 (xn : Int), .slice (some ⟨wr.heap.size, 0, none⟩) yn yn] := by
            show oldC B ((xn : Int), (yn : Int)) wr.heap.size ++ [] = _
            unfold oldC
            rw [HEO.out, HOL.out]
            rfl
          rw [e9]
          exact h7
        · intro k xk C hk hC
          by_cases hki : k < i
          · rw [List.getElem?_append_left (by rw [HIL.out]; exact hki)] at hk
            rw [List.getElem?_append_left (by rw [hCl]; exact hki)] at hC
            obtain ⟨h8, h8b⟩ := HROW.out.own k xk C hk hC
            exact ⟨hkeep C _ _ _ ((HB2.out.block C h8.lt).trans h8) (by decide), h8b⟩
          · have hk2 : k = i := by
              have := (List.getElem?_eq_some_iff.1 hC).1
              rw [List.length_append, hCl] at this
              simp at this
              omega
            subst hk2
            rw [List.getElem?_append_right (by rw [HIL.out]; exact Nat.le_refl _), HIL.out, Nat.sub_self] at hk
            rw [List.getElem?_append_right (by rw [hCl]; exact Nat.le_refl _), hCl, Nat.sub_self] at hC
            simp at hk hC
            subst hk hC
            rw [HEO.out]
            exact ⟨hkeep _ _ _ _ HOA.out (by decide), HBW.out.size⟩
      have YR := hide yr
      have YB := hide hbx
      clear yr hbx hkeep hge
      refine wpAnyH_take (i := 28) (v := v1) rfl (by kernel_rfl) (by kernel_rfl) (by kernel_rfl) (fun _ _ _ h => h) (Or.inl ⟨by kernel_rfl, fun w' hw => by (go_simp)⟩) hS3 ?_
      refine wpAnyH_done (by kernel_rfl) ?_ _
      simp only [Act.put, List.getElem_toArray, List.getElem_cons_zero, List.getElem_cons_succ, List.setIfInBounds_toArray, List.set_cons_zero, List.set_cons_succ]
      go_wp2_with (fail)
      go_roundw
      case rel => exact ⟨i + 1, Cs ++ [wr.heap.size], int_congrP (by omega), by omega, YR.out, YB.out⟩
      case measure => simp [intOf]; omega
    · have iI : ¬ (i : Int) < (m : Int) := by omega
      have e : xs.take i = xs := List.take_of_length_le (by rw [HM.out]; omega)
      rw [e] at hrow
      go_wp2_with (fail)
      go_ret
      exact ⟨_, rfl, ⟨_, hrow⟩, hBw⟩
theorem uolds_any {w : World} {R m ic c : Nat} {B : List Nat} {ea : Option Addr} {xs : List (Int × Int)} (hO : OwnB w R B) (hBl : B.length = 1024) (hic : 1024 ≤ ic) (hb : ∀ y ∈ B, y < 256) (h : SlE w ea xs) (hm : xs.length = m) (hm5 : m ≤ 1000) (hx : ∀ x ∈ xs, 0 ≤ x.1 ∧ 1 ≤ x.2 ∧ x.1 + x.2 ≤ 1024) :
    Calls Try.prog 12 #[.slice (some ⟨R, 0, none⟩) 1024 ic, .slice ea m c] w fun e w' => ∃ v, e = .returned v ∧ RowR w' v (recL B xs) ∧ Below w.heap.size w w' :=
  (uolds_own hO hBl hic hb h hm hm5 hx).mono (fun e w' ⟨v, h1, ⟨Cs, h2⟩, h3⟩ => ⟨v, h1, h2.rowR hb (fun x hxx => (hx x hxx).1), h3⟩)
theorem OldR.keep {w w' : World} {base : Nat} {v : Value} {B : List Nat} {xs : List (Int × Int)} {Cs : List Nat} (h : OldR w base v B xs Cs) (hk : ∀ g, base ≤ g → g < w.heap.size → w'.heap[g]? = w.heap[g]?) : OldR w' base v B xs Cs := by
  refine ⟨h.len, ⟨h.row.1, ?_⟩, fun i x C h1 h2 => ?_⟩
  · rcases h.row.2 with h2 | ⟨g, cap, cur, hv, hg, hh, r⟩
    · exact .inl h2
    · exact .inr ⟨g, cap, cur, hv, hg, (hk g hg (lt_of_heap hh)).trans hh, r⟩
  · obtain ⟨o1, o2⟩ := h.own i x C h1 h2
    exact ⟨o1.of_block (hk C o2 o1.lt), o2⟩
end Go.Proofs.Ytgfgihpkbbjkfaa
namespace Go.Proofs.Ytgfgihpkbbjkfaa
open Go.RowKit Go.Shelf
set_option linter.unusedVariables false
set_option maxRecDepth 100000

/-- A device that is on and may be, to be read. -/
structure Dr (w : World) (b : Nat) (L : Lay) (σ : St) : Prop where
  dev : DevL w b L σ
  ok : σ.Ok
  on : σ.off = false
theorem Dr.below {w w' : World} {b : Nat} {L : Lay} {σ : St} (h : Dr w b L σ) (hB : Below w.heap.size w w') : Dr w' b L σ := ⟨h.dev.below hB, h.ok, h.on⟩
theorem Dv.dr {w : World} {b : Nat} {L : Lay} {σ : St} (h : Dv w b L σ) : Dr w b L σ := ⟨h.dev, h.ok, h.on⟩
theorem dr_load {w : World} {b : Nat} {L : Lay} {σ : St} {at_ n : Nat} (h : Dr w b L σ) (hlen : at_ + n ≤ 64 * σ.n) :
    Calls Try.prog 21 #[.pointer (some ⟨b, 0, none⟩), .int .i64 (at_ : Int), .int .i64 (n : Int)] w fun e w' => ∃ R, e = .returned (.tuple #[.slice (some ⟨R, 0, none⟩) n n, .int .i64 0]) ∧ w.heap.size ≤ R ∧ OwnB w' R ((σ.bytes.drop at_).take n) ∧ Below w.heap.size w w' := by
  refine (callsIn_wide.1 (pload_in h.dev h.ok h.on hlen)).mono ?_
  rintro e w' ⟨R, h1, h2, h3, h4⟩
  exact ⟨R, h1, h2, h3, h4⟩
set_option maxHeartbeats 2000000 in
theorem lnumber_r {w : World} {g b a z : Nat} {L : Lay} {σ : St} (h : LogL w g b a z) (hd : Dr w b L σ) (ha8 : a % 8 = 0) (hal : a + 8 ≤ 64 * σ.n) : Calls Try.prog 29 #[.pointer (some ⟨g, 0, none⟩)] w fun e w' => e = .returned (.tuple #[.int .u64 ((leV ((σ.bytes.drop a).take 8) : Nat) : Int), .int .i64 0]) ∧ Below w.heap.size w w' := by
  have hmx := hd.ok.max
  have kw : ∀ W, Below w.heap.size w W → Calls Try.prog 52 #[.pointer (some ⟨b, 0, none⟩), .int .i64 (a : Int)] W fun e w' => e = .returned (.tuple #[.int .u64 ((leV ((σ.bytes.drop a).take 8) : Nat) : Int), .int .i64 0]) ∧ Below W.heap.size W w' := fun W hB => by
    exact qword (w := W) (p := some ⟨b, 0, none⟩) (a : Int) (by omega) (by omega) ((σ.bytes.drop a).take 8) (by rw [List.length_take, List.length_drop, hd.ok.len]; omega) (fun y hy => hd.ok.byte y (List.mem_of_mem_drop (List.mem_of_mem_take hy))) (fun X hX => (dr_load (at_ := a) (n := 8) ((hd.below hB).below hX) hal).mono fun e w' ⟨R, q1, _, q3, q4⟩ => ⟨R, q1, q3, q4⟩)
  generalize leV ((σ.bytes.drop a).take 8) = v at *
  have KN := hide (lnone_any h)
  have KW := hide kw
  have H := hide h
  clear h hd kw hmx
  go_enter Try.func29, Try.ntmps29
  go_wp2_with (go_at_call 51; refine (KN.out).mono ?_; rintro e w' ⟨rfl, hw⟩; obtain rfl := hw.symm)
  refine wp_region_held_drew (S := fun Y => LogL Y g b a z) (by kernel_rfl) H.out.drew (fun hS => ?_)
  refine wpAnyH_take (i := 0) (v := (.pointer (some ⟨g, 0, none⟩))) rfl (by kernel_rfl) (by kernel_rfl) (by kernel_rfl) (fun _ _ _ h => h) (Or.inl ⟨by kernel_rfl, fun w' hw => by (go_simp)⟩) hS ?_
  refine wpAnyH_take (i := 1) (v := (.pointer (some ⟨g, 0, none⟩))) rfl (by kernel_rfl) (by kernel_rfl) (by kernel_rfl) (fun _ _ _ h => h) (Or.inl ⟨by kernel_rfl, fun w' hw => by (go_simp)⟩) hS ?_
  refine wpAnyH_take (i := 2) (v := (.pointer (some ⟨g, 1, none⟩))) rfl (by kernel_rfl) (by kernel_rfl) (by kernel_rfl) (fun _ _ _ h => h) (Or.inl ⟨by kernel_rfl, fun w' hw => by (go_simp)⟩) hS ?_
  refine wpAnyH_take (i := 3) (v := (.pointer (some ⟨b, 0, none⟩))) rfl (by kernel_rfl) (by kernel_rfl) (by kernel_rfl) (fun _ _ _ h => h) (Or.inl ⟨by kernel_rfl, fun w' hw => by (have z1 := LogL.c1 hw; have z2 := LogL.c2 hw; have z3 := LogL.c3 hw; go_simp)⟩) hS ?_
  refine wpAnyH_take (i := 4) (v := (.pointer (some ⟨g, 0, none⟩))) rfl (by kernel_rfl) (by kernel_rfl) (by kernel_rfl) (fun _ _ _ h => h) (Or.inl ⟨by kernel_rfl, fun w' hw => by (go_simp)⟩) hS ?_
  refine wpAnyH_take (i := 5) (v := (.pointer (some ⟨g, 0, none⟩))) rfl (by kernel_rfl) (by kernel_rfl) (by kernel_rfl) (fun _ _ _ h => h) (Or.inl ⟨by kernel_rfl, fun w' hw => by (go_simp)⟩) hS ?_
  refine wpAnyH_take (i := 6) (v := (.pointer (some ⟨g, 2, none⟩))) rfl (by kernel_rfl) (by kernel_rfl) (by kernel_rfl) (fun _ _ _ h => h) (Or.inl ⟨by kernel_rfl, fun w' hw => by (go_simp)⟩) hS ?_
  refine wpAnyH_take (i := 7) (v := (.int .i64 (a : Int))) rfl (by kernel_rfl) (by kernel_rfl) (by kernel_rfl) (fun _ _ _ h => h) (Or.inl ⟨by kernel_rfl, fun w' hw => by (have z1 := LogL.c1 hw; have z2 := LogL.c2 hw; have z3 := LogL.c3 hw; go_simp)⟩) hS ?_
  refine wpAnyH_goS (i := 8) (by kernel_rfl) rfl (by kernel_rfl) (fun K hK => ?_)
  go_wp2_with (go_at_call 52; refine (KW.out _ (Below.refl _ w).drew).mono ?_; rintro e W1 ⟨rfl, hB⟩; have HB := hide (bseq (Below.refl _ w).drew hB); clear hB)
  have hS2 := H.out.below HB.out
  refine hK.out _ _ hS2 ?_
  clear hK K
  refine wpAnyH_take (i := 9) (v := (.int .u64 (v : Int))) rfl (by kernel_rfl) (by kernel_rfl) (by kernel_rfl) (fun _ _ _ h => h) (Or.inl ⟨by kernel_rfl, fun w' hw => by (go_simp)⟩) hS2 ?_
  refine wpAnyH_take (i := 10) (v := (.int .i64 0)) rfl (by kernel_rfl) (by kernel_rfl) (by kernel_rfl) (fun _ _ _ h => h) (Or.inl ⟨by kernel_rfl, fun w' hw => by (go_simp)⟩) hS2 ?_
  refine wpAnyH_take (i := 11) (v := (.int .u64 (v : Int))) rfl (by kernel_rfl) (by kernel_rfl) (by kernel_rfl) (fun _ _ _ h => h) (Or.inl ⟨by kernel_rfl, fun w' hw => by (go_simp)⟩) hS2 ?_
  refine wpAnyH_take (i := 12) (v := (.int .i64 0)) rfl (by kernel_rfl) (by kernel_rfl) (by kernel_rfl) (fun _ _ _ h => h) (Or.inl ⟨by kernel_rfl, fun w' hw => by (go_simp)⟩) hS2 ?_
  refine wpAnyH_done (by kernel_rfl) ?_ _
  simp only [Act.put, List.getElem_toArray, List.getElem_cons_zero, List.getElem_cons_succ, List.setIfInBounds_toArray, List.set_cons_zero, List.set_cons_succ]
  go_wp2_with (fail)
  go_ret2
  exact ⟨rfl, HB.out⟩
set_option maxHeartbeats 2000000 in
theorem lextent_r {w : World} {g b a z : Nat} {L : Lay} {σ : St} (at_ xn ln : Nat) (h : LogL w g b a z) (hd : Dr w b L σ) (haz : a + z ≤ 64 * σ.n) (hat : at_ + 24 ≤ a + z) (hx : (σ.bytes.drop at_).take 8 = leB 8 xn) (hl : (σ.bytes.drop (at_ + 8)).take 8 = leB 8 ln) (hxn : xn ≤ 4194304) (hln : ln ≤ 4194304) (hmay : mayV a z σ.n (xn : Int) (ln : Int) = true) :
    Calls Try.prog 60 #[.pointer (some ⟨g, 0, none⟩), .int .i64 (at_ : Int)] w fun e w' => e = .returned (.tuple #[.agg #[.int .i64 (xn : Int), .int .i64 (ln : Int)], .int .i64 0]) ∧ Below w.heap.size w w' := by
  have hmx := hd.ok.max
  have hA : Below w.heap.size w (w.alloc (.cells #[.int .i64 0, .int .i64 0] 52)) := (Below.refl _ w).alloc (Nat.le_refl _) _
  have hnw := heap_alloc_new w (.cells #[.int .i64 0, .int .i64 0] 52)
  have hlog := h.below hA
  have KE := hide (lend_any hlog (by omega))
  have hA2 := bseq hA (Below.refl _ _).drew
  have KL := hide (dr_load (at_ := at_) (n := 24) (hd.below hA2) (by omega))
  have hb24 : ((σ.bytes.drop at_).take 24).length = 24 := by rw [List.length_take, List.length_drop, hd.ok.len]; omega
  have hb256 : ∀ y ∈ (σ.bytes.drop at_).take 24, y < 256 := fun y hy => hd.ok.byte y (List.mem_of_mem_drop (List.mem_of_mem_take hy))
  have q0 : leV ((((σ.bytes.drop at_).take 24).drop 0).take 8) = xn := by rw [drop_take_take (by omega), Nat.add_zero, hx, leV_of (by omega)]
  have q8 : leV ((((σ.bytes.drop at_).take 24).drop 8).take 8) = ln := by rw [drop_take_take (by omega), hl, leV_of (by omega)]
  have KT0 := hide (fun (W : World) (R : Nat) (hO : OwnB W R ((σ.bytes.drop at_).take 24)) => show Calls Try.prog 77 #[.slice (some ⟨R, 0, none⟩) 24 24, .int .i64 0] W fun e w' => e = .returned (.int .i64 (xn : Int)) ∧ w' = W by
    have k := ltake_any (a := some ⟨R, 0, none⟩) 24 0 W (hO.sl hb256) hb24 (by omega)
    rw [q0, IntWalk.wrap64_in _ (by omega)] at k
    exact k)
  have KT8 := hide (fun (W : World) (R : Nat) (hO : OwnB W R ((σ.bytes.drop at_).take 24)) => show Calls Try.prog 77 #[.slice (some ⟨R, 0, none⟩) 24 24, .int .i64 8] W fun e w' => e = .returned (.int .i64 (ln : Int)) ∧ w' = W by
    have k := ltake_any (a := some ⟨R, 0, none⟩) 24 8 W (hO.sl hb256) hb24 (by omega)
    rw [q8, IntWalk.wrap64_in _ (by omega)] at k
    exact k)
  have km := fun W (hB : Below w.heap.size w W) => lmay_any (xn : Int) (ln : Int) (h.below hB) (hd.dev.below hB) hmx (by omega) (by omega) (by omega)
  rw [hmay] at km
  have KM := hide km
  generalize (σ.bytes.drop at_).take 24 = B24 at *
  have HLOG := hide hlog
  have HNW := hide hnw
  have HA2 := hide hA2
  have wm : IntKind.i64.wrap (((a + z : Nat) : Int) - 24) = ((a + z : Nat) : Int) - 24 := by rw [IntKind.wrap_i64]; omega
  have hcmp : ¬ ((a + z : Nat) : Int) - 24 < (at_ : Int) := by omega
  obtain ⟨AZ, hAZ⟩ : ∃ AZ, a + z = AZ := ⟨_, rfl⟩
  rw [hAZ] at KE wm hcmp
  clear h hd hx hl hmay km hlog hnw hA hA2 hb24 hb256 q0 q8 hAZ
  go_enter Try.func60, Try.ntmps60
  go_upto_region 3 with (go_at_call 55; refine (KE.out).mono ?_; rintro e w' ⟨rfl, hw⟩; obtain rfl := hw.symm)
  have c1 := HLOG.out.drew.c1
  go_upto_region 7 with (first
    | (go_at_call 21; refine (KL.out).mono ?_; rintro e W2 ⟨RR, rfl, hRn, hRo, hRb⟩; have HRO := hide hRo; have HRB := hide hRb; have KT0R := hide (KT0.out W2 RR hRo); have KT8R := hide (KT8.out W2 RR hRo); clear hRn hRo hRb)
    | (go_at_call 77; refine (KT0R.out).mono ?_; rintro e w' ⟨rfl, hw⟩; obtain rfl := hw.symm; clear KT0R)
    | (go_at_call 77; refine (KT8R.out).mono ?_; rintro e w' ⟨rfl, hw⟩; obtain rfl := hw.symm; clear KT8R))
  have hA3 : Below W2.heap.size W2 (W2.alloc (.cells #[.int .i64 (xn : Int), .int .i64 (ln : Int)] 52)) := (Below.refl _ W2).alloc (Nat.le_refl _) _
  have hb3 := bseq (bseq HA2.out HRB.out) hA3
  have KM3 := hide (KM.out _ hb3)
  have HNEW := hide (heap_alloc_new W2 (.cells #[.int .i64 (xn : Int), .int .i64 (ln : Int)] 52))
  have HR0 := hide (row_keepU (row_keepU (show (w.alloc (.cells #[.int .i64 0, .int .i64 0] 52)).drew.heap[w.heap.size]? = _ from HNW.out) HRB.out) hA3)
  have HB3 := hide hb3
  clear hb3 hA3
  go_upto_region 9 with (go_at_call 53; refine (KM3.out).mono ?_; rintro e W4 ⟨rfl, hb⟩; have HB4 := hide hb; clear hb)
  have r0 := row_keepU HR0.out HB4.out
  have r8 := row_keepU HNEW.out HB4.out
  have x0 : W4.cell? ⟨W2.heap.size, 0, none⟩ = some (.int .i64 (xn : Int)) := cell8 r8 0
  have x1 : W4.cell? ⟨W2.heap.size, 1, none⟩ = some (.int .i64 (ln : Int)) := cell8 r8 1
  obtain ⟨⟨d0, d1⟩, ⟨f0, f1⟩, RR2, BB, _⟩ := chain2 r0 (.int .i64 (xn : Int)) (.int .i64 (ln : Int))
  have R9 := hide RR2
  have B9 := hide (BB w.heap.size w (Nat.le_refl _) (bseq HB3.out HB4.out))
  clear RR2 BB r0 r8
  go_wp2_with (fail)
  (try simp only [Exit.inBlock, Exit.then])
  refine bodyPost_ret (results_rowU rfl _ _ w.heap.size _ _ _ _ rfl R9.out Try.underlying52 rfl (by kernel_rfl)) rfl ?_
  exact ⟨rfl, B9.out⟩
set_option maxHeartbeats 2000000 in
theorem lread_r {w : World} {g b a z : Nat} {L : Lay} {σ : St} (at_ xn : Nat) (old : List Nat) (h : LogL w g b a z) (hd : Dr w b L σ) (haz : a + z ≤ 64 * σ.n) (hat : at_ + (recB xn old).length ≤ a + z) (hrec : RecAt σ.bytes at_ xn old) (hol : 1 ≤ old.length) (hxn : xn ≤ 4194304) (hmay : mayV a z σ.n (xn : Int) (old.length : Int) = true) :
    Calls Try.prog 35 #[.pointer (some ⟨g, 0, none⟩), .int .i64 (at_ : Int)] w fun e w' => ∃ R, e = .returned (.tuple #[.agg #[.int .i64 (xn : Int), .slice (some ⟨R, 24, none⟩) old.length ((recB xn old).length - 24)], .int .i64 (((recB xn old).length : Nat) : Int), .int .i64 0]) ∧ w.heap.size ≤ R ∧ OwnB w' R (recB xn old) ∧ Below w.heap.size w w' := by
  have hmx := hd.ok.max
  have hrl := recB_len xn old
  obtain ⟨p8, p16⟩ := rec_parts hrec
  have hpad : padN old.length < 8 := by unfold padN; omega
  have hold : ∀ y ∈ old, y < 256 := fun y hy => by
    have h5 : y ∈ recB xn old := by unfold recB; simp [hy]
    rw [← hrec] at h5
    exact hd.ok.byte y (List.mem_of_mem_drop (List.mem_of_mem_take h5))
  have hr256 := recB_lt xn old hold
  have KX := hide (fun W (hB : Below w.heap.size w W) => lextent_r at_ xn old.length (h.below hB) (hd.below hB) haz (by omega) p8 p16 hxn (by omega) hmay)
  have hnv : needV 0 [(old.length : Int)] = ((((recB xn old).length : Nat) : Int), 0) := by
    have hr := roundV_pad (l := (old.length : Int)) (by omega) (by omega)
    unfold needV
    rw [hr, if_neg (by simp; omega)]
    unfold needV
    rw [hrl]
    simp
  have KN := hide (fun (W : World) => show Calls Try.prog 54 #[.slice (some ⟨W.heap.size, 0, none⟩) 1 1] (W.alloc (.cells #[.int .i64 (old.length : Int)] 3)) fun e w' => e = .returned (.tuple #[.int .i64 (((recB xn old).length : Nat) : Int), .int .i64 0]) ∧ w' = W.alloc (.cells #[.int .i64 (old.length : Int)] 3) by
    have hnw := heap_alloc_new W (.cells #[.int .i64 (old.length : Int)] 3)
    have k := need_any (a := some ⟨W.heap.size, 0, none⟩) (zs := [(old.length : Int)]) 1 1 (w := W.alloc (.cells #[.int .i64 (old.length : Int)] 3)) ⟨fun z hz => by rw [List.mem_singleton.1 hz]; omega, .inr ⟨W.heap.size, 0, rfl, lt_of_heap hnw, fun i z hz => by
      match i, hz with
      | 0, hz => simp at hz; subst hz; exact cell8 hnw 0
      | i + 1, hz => simp at hz⟩⟩ rfl (by omega)
    rw [hnv] at k
    exact k)
  have KE := hide (fun W (hB : Below w.heap.size w W) => lend_any (h.below hB) (by omega))
  have kl := fun W (hB : Below w.heap.size w W) => dr_load (at_ := at_) (n := (recB xn old).length) (hd.below hB) (by omega)
  unfold RecAt at hrec
  rw [hrec] at kl
  have KL := hide kl
  have KLA := hide (fun (W : World) (R : Nat) (hO : OwnB W R (recB xn old)) => llaid_any xn R 24 old ((recB xn old).length - 24) W (fun i y hy => ⟨hO.cell (24 + i) y (by
    unfold recB
    rw [List.getElem?_append_right (by rw [recH_len]; omega), recH_len, show 24 + i - 24 = i by omega, List.getElem?_append_left (List.getElem?_eq_some_iff.1 hy).1]
    exact hy), hold y (List.mem_of_getElem? hy)⟩) hO.lt hol (by omega) (by omega) hold)
  have SO := hide (fun (R : Nat) W => slice_old R (recB xn old).length old.length hol (by omega) (by omega) W)
  obtain ⟨ln, hln⟩ : ∃ ln, old.length = ln := ⟨_, rfl⟩
  obtain ⟨rb, hrb⟩ : ∃ rb, recB xn old = rb := ⟨_, rfl⟩
  obtain ⟨rl, hrlv⟩ : ∃ rl, rb.length = rl := ⟨_, rfl⟩
  have HLOG := hide h
  rw [hrb] at hat hrl hr256 KN KL KLA SO ⊢
  rw [hln] at hrl KX KN KLA SO ⊢
  rw [hrlv] at hat hrl KN KL KLA SO ⊢
  have HR256 := hide hr256
  have HRLV := hide hrlv
  have hA : Below w.heap.size w (w.alloc (.cells #[.int .i64 0, .slice none 0 0] 57)) := (Below.refl _ w).alloc (Nat.le_refl _) _
  have HNW := hide (heap_alloc_new w (.cells #[.int .i64 0, .slice none 0 0] 57))
  have HA := hide hA
  have hrl1 : 25 ≤ rl ∧ rl ≤ 4194304 := by omega
  obtain ⟨tl, htl⟩ : ∃ tl, 24 + ln = tl := ⟨_, rfl⟩
  have wm24 : IntKind.i64.wrap (24 + (ln : Int)) = (tl : Int) := by rw [IntKind.wrap_i64]; omega
  rw [htl] at SO
  clear htl
  obtain ⟨AZ, hAZ⟩ : ∃ AZ, a + z = AZ := ⟨_, rfl⟩
  rw [hAZ] at KE hat haz
  have wme : IntKind.i64.wrap ((AZ : Int) - (at_ : Int)) = (AZ : Int) - (at_ : Int) := by rw [IntKind.wrap_i64]; omega
  have hcmp : ¬ (AZ : Int) - (at_ : Int) < (rl : Int) := by omega
  clear h hd hrec hmay p8 p16 hold hr256 hnv kl hA hln hrb hrlv hAZ hol hrl
  go_enter Try.func35, Try.ntmps35
  go_upto_region 4 with (go_at_call 60; refine (KX.out _ HA.out).mono ?_; rintro e W1 ⟨rfl, hb⟩; have HB1 := hide hb; clear hb)
  have hA1 : Below W1.heap.size W1 (W1.alloc (.cells #[.int .i64 (xn : Int), .int .i64 (ln : Int)] 52)) := (Below.refl _ W1).alloc (Nat.le_refl _) _
  have HE1 := hide (heap_alloc_new W1 (.cells #[.int .i64 (xn : Int), .int .i64 (ln : Int)] 52))
  have HR1 := hide (row_keepU (row_keepU HNW.out HB1.out) hA1)
  have HB2 := hide (bseq (bseq HA.out HB1.out) hA1)
  have x0 : (W1.alloc (.cells #[.int .i64 (xn : Int), .int .i64 (ln : Int)] 52)).cell? ⟨W1.heap.size, 0, none⟩ = some (.int .i64 (xn : Int)) := cell8 HE1.out 0
  have x1 : (W1.alloc (.cells #[.int .i64 (xn : Int), .int .i64 (ln : Int)] 52)).cell? ⟨W1.heap.size, 1, none⟩ = some (.int .i64 (ln : Int)) := cell8 HE1.out 1
  generalize W1.alloc (.cells #[.int .i64 (xn : Int), .int .i64 (ln : Int)] 52) = X1 at *
  generalize W1.heap.size = ev at *
  clear hA1
  have hA2 : Below X1.heap.size X1 (X1.alloc (.cells #[.int .i64 (ln : Int)] 3)) := (Below.refl _ X1).alloc (Nat.le_refl _) _
  have HB3 := hide (bseq HB2.out hA2)
  have KN1 := hide (KN.out X1)
  have KE1 := hide (KE.out _ HB3.out)
  have HE2 := hide (row_keepU HE1.out hA2)
  have HR2 := hide (row_keepU HR1.out hA2)
  clear hA2
  go_upto_region 7 with (first
    | (go_at_call 54; refine (KN1.out).mono ?_; rintro e w' ⟨rfl, hw⟩; obtain rfl := hw.symm)
    | (go_at_call 55; refine (KE1.out).mono ?_; rintro e w' ⟨rfl, hw⟩; obtain rfl := hw.symm))
  have c1 := (HLOG.out.below (HB3.out.drew)).c1
  have KL1 := hide (KL.out _ HB3.out.drew)
  go_upto_region 10 with (go_at_call 21; refine (KL1.out).mono ?_; rintro e W4 ⟨RR, rfl, hRn, hRo, hRb⟩; have HRO := hide hRo; have HRN := hide hRn; have HRB := hide hRb; clear hRn hRo hRb)
  have r4 := row_keepU (show (X1.alloc (.cells #[.int .i64 (ln : Int)] 3)).drew.heap[ev]? = _ from HE2.out) HRB.out
  have y0 : W4.cell? ⟨ev, 0, none⟩ = some (.int .i64 (xn : Int)) := cell8 r4 0
  have y1 : W4.cell? ⟨ev, 1, none⟩ = some (.int .i64 (ln : Int)) := cell8 r4 1
  have so := fun W => SO.out RR W
  have KLA1 := hide (KLA.out W4 RR HRO.out)
  clear r4
  go_upto_region 13 with (first
    | (go_at_call 56; refine (KLA1.out).mono ?_; rintro e W5 ⟨rv, rfl, hrv, hb5⟩; obtain ⟨rg, rcap, rfl, hsl, _, _, _⟩ := OwnR.slice hrv HR256.out (by rw [HRLV.out]; omega); rw [HRLV.out]; have KEQ := hide (bequal_same rl rcap rl HRLV.out ((HRO.out.below hb5 HRO.out.lt).sl HR256.out) hsl (by omega)); have HB5 := hide hb5; clear hrv hb5 hsl)
    | (go_at_call 61; refine (KEQ.out).mono ?_; rintro e w' ⟨rfl, hw⟩; obtain rfl := hw.symm))
  have r5 := row_keepU (row_keepU (show (X1.alloc (.cells #[.int .i64 (ln : Int)] 3)).drew.heap[ev]? = _ from HE2.out) HRB.out) HB5.out
  have z0 : W5.cell? ⟨ev, 0, none⟩ = some (.int .i64 (xn : Int)) := cell8 r5 0
  have q5 := row_keepU (row_keepU (show (X1.alloc (.cells #[.int .i64 (ln : Int)] 3)).drew.heap[w.heap.size]? = _ from HR2.out) HRB.out) HB5.out
  obtain ⟨⟨d0, d1⟩, ⟨f0, f1⟩, RR2, BB, OO⟩ := chain2 q5 (.int .i64 (xn : Int)) (.slice (some ⟨RR, 24, none⟩) ln (rl - 24))
  have R9 := hide RR2
  have B9 := hide (BB w.heap.size w (Nat.le_refl _) (bseq (bseq HB3.out.drew HRB.out) HB5.out))
  have hne : RR ≠ w.heap.size := by
    have h1 := HRN.out
    have h2 := lt_of_heap HR2.out
    have h3 : (X1.alloc (.cells #[.int .i64 (ln : Int)] 3)).drew.heap.size = (X1.alloc (.cells #[.int .i64 (ln : Int)] 3)).heap.size := rfl
    omega
  have O9 := hide ((HRO.out.below HB5.out HRO.out.lt).of_block (OO RR hne))
  have HLE := hide (Nat.le_trans HB3.out.drew.size HRN.out)
  clear RR2 BB OO r5 q5 hne
  go_wp2_with (fail)
  (try simp only [Exit.inBlock, Exit.then])
  refine bodyPost_ret (results_rowU3 rfl _ _ w.heap.size _ _ _ _ rfl R9.out Try.underlying57 rfl (by kernel_rfl)) rfl ?_
  exact ⟨RR, rfl, HLE.out, O9.out, B9.out⟩
set_option maxHeartbeats 2000000 in
theorem lrecords_r {w : World} {g b a z : Nat} {L : Lay} {σ : St} (rs : List (Nat × List Nat)) (h : LogL w g b a z) (hd : Dr w b L σ) (ha8 : a % 8 = 0) (hz : 64 ≤ z) (haz : a + z ≤ 64 * σ.n) (hnum : leV ((σ.bytes.drop a).take 8) = rs.length) (hrs : RecsAt a z σ.n σ.bytes (a + 64) rs) (hk : rs.length ≤ 4194304) :
    Calls Try.prog 10 #[.pointer (some ⟨g, 0, none⟩)] w fun e w' => ∃ v Rs, e = .returned (.tuple #[v, .int .i64 0]) ∧ RowC w' w.heap.size v rs Rs ∧ Below w.heap.size w w' := by
  have hmx := hd.ok.max
  obtain ⟨i0, hi0, hz0, hz1, hz2⟩ := infoRec
  have kn := lnumber_r h hd ha8 (by omega)
  rw [hnum] at kn
  obtain ⟨k, hkk⟩ : ∃ k, rs.length = k := ⟨_, rfl⟩
  rw [hkk] at kn hk
  have KN := hide kn
  have KR := hide (fun W (hB : Below w.heap.size w W) => lroom_any (h.below hB) (by omega))
  have KRD := hide (fun W (hB : Below w.heap.size w W) (at_ : Nat) (r : Nat × List Nat) (h1 : RecAt σ.bytes at_ r.1 r.2) (h2 : 1 ≤ r.2.length) (h3 : r.1 ≤ 4194304) (h4 : mayV a z σ.n (r.1 : Int) (r.2.length : Int) = true) (h5 : at_ + (recB r.1 r.2).length ≤ a + z) => lread_r at_ r.1 r.2 (h.below hB) (hd.below hB) haz h5 h1 h2 h3 h4)
  have HRS := hide hrs
  have HK := hide hkk
  have kI : (k : Int) ≤ 4194304 := by omega
  clear h hd kn hnum hrs hkk
  go_enter Try.func10, Try.ntmps10
  go_wp2_with (first | (go_at_call 29; refine (KN.out).mono ?_; rintro e W1 ⟨rfl, hb⟩; have HB1 := hide hb; clear hb) | (go_at_call 33; refine (KR.out _ HB1.out).mono ?_; rintro e w' ⟨rfl, hw⟩; obtain rfl := hw.symm))
  go_loopw [4, 6, 7] (fun nv rv av wr => ∃ (j : Nat) (Rs : List Nat) (at0 : Nat), nv = .int .u64 ((k - j : Nat) : Int) ∧ av = .int .i64 (at0 : Int) ∧ at0 = a + 64 + recsLen (rs.take j) ∧ j ≤ k ∧ RowC wr w.heap.size rv (rs.take j) Rs ∧ Below w.heap.size w wr) (fun nv _ _ _ => (intOf nv).toNat)
  case atStart => exact ⟨0, [], a + 64, rfl, rfl, by simp [recsLen], Nat.zero_le _, ⟨rfl, ⟨rfl, .inl ⟨rfl, rfl⟩⟩, fun i r R h1 => by simp at h1, List.Pairwise.nil⟩, HB1.out⟩
  case round =>
    obtain ⟨j, Rs, at0, rfl, rfl, hat0, hj, hrow, hB⟩ := hrel
    have HAT0 := hide hat0
    clear hat0
    by_cases hlt : j < k
    · obtain ⟨r, hr⟩ : ∃ r, rs[j]? = some r := ⟨_, List.getElem?_eq_getElem (by rw [HK.out]; exact hlt)⟩
      have hts : rs.take (j + 1) = rs.take j ++ [r] := by rw [List.take_add_one, hr]; rfl
      have hdr := RecsAt.drop rs (a + 64) j HRS.out
      rw [← HAT0.out, List.drop_eq_getElem_cons (by rw [HK.out]; exact hlt)] at hdr
      have er : rs[j]'(by rw [HK.out]; exact hlt) = r := by
        have h5 := List.getElem?_eq_getElem (l := rs) (i := j) (by rw [HK.out]; exact hlt)
        rw [h5] at hr
        exact Option.some.inj hr
      rw [er] at hdr
      obtain ⟨q1, q2, q3, q4, q5, _⟩ := hdr
      have krd := KRD.out wr hB at0 r q1 q2 q3 q4 q5
      obtain ⟨n, hn⟩ : ∃ n : Nat, k - j = n + 1 := ⟨k - j - 1, by omega⟩
      rw [hn]
      have nI : (0 : Int) < ((n + 1 : Nat) : Int) := by omega
      obtain ⟨m, hm⟩ : ∃ m, n + 1 = m := ⟨_, rfl⟩
      rw [hm] at nI ⊢
      have wmn : IntKind.u64.wrap ((m : Int) - 1) = (n : Int) := by rw [IntKind.wrap_u64]; omega
      obtain ⟨x, old⟩ := r
      simp only at krd q2 q3 q5
      have hlen := hrow.len
      obtain ⟨rl, hrl⟩ : ∃ rl, (recB x old).length = rl := ⟨_, rfl⟩
      obtain ⟨ln, hln⟩ : ∃ ln, old.length = ln := ⟨_, rfl⟩
      have hRC : ∀ R, recC (x, old) R = [.int .i64 (x : Int), .slice (some ⟨R, 24, none⟩) ln (rl - 24)] := fun R => by unfold recC; simp only; rw [hrl, hln]
      rw [hrl, hln] at krd
      rw [hrl] at q5
      have KRDx := hide krd
      have HROW := hide hrow
      have HB := hide hB
      have HTS := hide hts
      have HNM := hide (And.intro hn hm)
      have HRC := hide hRC
      have HRL := hide hrl
      have wma : IntKind.i64.wrap ((at0 : Int) + (rl : Int)) = ((at0 + rl : Nat) : Int) := by rw [IntKind.wrap_i64]; omega
      obtain ⟨at1, hat1⟩ : ∃ at1, at0 + rl = at1 := ⟨_, rfl⟩
      rw [hat1] at wma
      have HAT1 := hide hat1
      have hjl : (rs.take j).length = j := by rw [List.length_take, HK.out]; omega
      have HJL := hide hjl
      clear krd hrow hB hts q1 q4 hn hm hlen hRC hrl hat1 er hr hln hjl
      go_upto_region 11 with (go_at_call 35; refine (KRDx.out).mono ?_; rintro e W2 ⟨R, rfl, hRs, hRo, hRb⟩; have HRS2 := hide hRs; have HRO := hide hRo; have HRB := hide hRb; clear hRs hRo hRb)
      have hA1 : Below W2.heap.size W2 (W2.alloc (.cells #[.int .i64 (x : Int), .slice (some ⟨R, 24, none⟩) ln (rl - 24)] 57)) := (Below.refl _ W2).alloc (Nat.le_refl _) _
      have hnew := heap_alloc_new W2 (.cells #[.int .i64 (x : Int), .slice (some ⟨R, 24, none⟩) ln (rl - 24)] 57)
      have c0 : (W2.alloc (.cells #[.int .i64 (x : Int), .slice (some ⟨R, 24, none⟩) ln (rl - 24)] 57)).cell? ⟨W2.heap.size, 0, none⟩ = some (.int .i64 (x : Int)) := cell8 hnew 0
      have c1 : (W2.alloc (.cells #[.int .i64 (x : Int), .slice (some ⟨R, 24, none⟩) ln (rl - 24)] 57)).cell? ⟨W2.heap.size, 1, none⟩ = some (.slice (some ⟨R, 24, none⟩) ln (rl - 24)) := cell8 hnew 1
      have HB3 := hide (bseq HRB.out hA1)
      have HO3 := hide (HRO.out.below hA1 HRO.out.lt)
      have hRlt := HRO.out.lt
      generalize hXX : W2.alloc (.cells #[.int .i64 (x : Int), .slice (some ⟨R, 24, none⟩) ln (rl - 24)] 57) = X at *
      have hA2 : Below X.heap.size X (X.alloc (.cells #[.int .i64 (x : Int), .slice (some ⟨R, 24, none⟩) ln (rl - 24)] 57)) := (Below.refl _ X).alloc (Nat.le_refl _) _
      have hrow4 := (HROW.out.keep HB3.out).keep hA2
      have HB4 := hide (bseq (bseq HB.out HB3.out) hA2)
      have HO4 := hide (HO3.out.below hA2 HO3.out.lt)
      have HROW4 := hide hrow4
      have hsz : w.heap.size ≤ (X.alloc (.cells #[.int .i64 (x : Int), .slice (some ⟨R, 24, none⟩) ln (rl - 24)] 57)).heap.size := HB4.out.size
      have hrr := hrow4.row
      rw [HJL.out] at hrr
      have HRR := hide hrr
      have hlenR := hrow4.len
      rw [HJL.out] at hlenR
      clear hXX hA1 hnew hA2 hrow4 hrr
      go_wp2_with (at_builtin; refine wpList_append_own_at _ rfl _ _ 38 rfl w.heap.size 57 i0 (.agg #[.int .i64 0, .slice none 0 0]) 2 32 Try.underlying38 hi0 hz0 hz1 hz2 rfl (by decide) u6 j (((rs.take j).zip Rs).flatMap (fun p => recC p.1 p.2)) rfl HRR.out ⟨X.heap.size, 0, none⟩ 1 1 [.int .i64 (x : Int), .slice (some ⟨R, 24, none⟩) ln (rl - 24)] rfl rfl (cell_twoU X _ _ _) (by simp [Value.oneCell']) (by unfold maxLen; omega) (by omega) hsz ?_; intro v1 x1 ho3 hg3 hnn hat3; clear hnn hat3; have HO7 := hide ho3; have HG7 := hide hg3; clear ho3 hg3)
      go_roundw
      case rel =>
        have hB7 := bel_of_grownT HB4.out HRR.out HG7.out
        obtain ⟨hn, hm⟩ := HNM.out
        refine ⟨j + 1, Rs ++ [R], at1, int_congrP (by omega), rfl, ?_, by omega, ⟨?_, ?_, ?_, ?_⟩, hB7⟩
        · rw [HTS.out, recsLen_snoc, HRL.out, ← HAT1.out, HAT0.out]
          omega
        · rw [HTS.out, List.length_append, List.length_append, hlenR, HJL.out]
          rfl
        · have e1 : ((rs.take j ++ [(x, old)]).zip (Rs ++ [R])).flatMap (fun p => recC p.1 p.2) = ((rs.take j).zip Rs).flatMap (fun p => recC p.1 p.2) ++ [.int .i64 (x : Int), .slice (some ⟨R, 24, none⟩) ln (rl - 24)] := by
            rw [List.zip_append (by rw [hlenR, HJL.out]), List.flatMap_append, ← HRC.out R]
            simp
          rw [HTS.out, e1, List.length_append, HJL.out]
          exact HO7.out
        · intro i r' R' h1 h2
          rw [HTS.out] at h1
          have hg := HG7.out
          have notrow : ∀ (k' : Nat) (c' : Array Value), (X.alloc (.cells #[.int .i64 (x : Int), .slice (some ⟨R, 24, none⟩) ln (rl - 24)] 57)).heap[k']? = some (.cells c' 5 (0, 0)) → x1.heap[k']? = (X.alloc (.cells #[.int .i64 (x : Int), .slice (some ⟨R, 24, none⟩) ln (rl - 24)] 57)).heap[k']? := fun k' c' hk' => hg.block k' (lt_of_heap hk') (fun e => by
            obtain ⟨c2, hc2⟩ := own_type HRR.out e.symm
            exact ne_ty hk' hc2 (by decide) rfl)
          by_cases hi : i < j
          · rw [List.getElem?_append_left (by rw [HJL.out]; exact hi)] at h1
            rw [List.getElem?_append_left (by rw [hlenR]; exact hi)] at h2
            obtain ⟨o1, o2⟩ := HROW4.out.own i r' R' h1 h2
            exact ⟨o1.of_block (notrow R' _ o1), o2⟩
          · have hij : i = j := by
              have := (List.getElem?_eq_some_iff.1 h1).1
              rw [List.length_append, HJL.out] at this
              simp at this
              omega
            subst hij
            rw [List.getElem?_append_right (by rw [HJL.out]; exact Nat.le_refl _), HJL.out, Nat.sub_self] at h1
            rw [List.getElem?_append_right (by rw [hlenR]; exact Nat.le_refl _), hlenR, Nat.sub_self] at h2
            simp at h1 h2
            subst h1 h2
            exact ⟨HO4.out.of_block (notrow R _ HO4.out), Nat.le_trans HB.out.size HRS2.out⟩
        · rw [List.pairwise_append]
          refine ⟨HROW4.out.ne, List.pairwise_singleton _ _, fun p hp q hq => ?_⟩
          rw [List.mem_singleton.1 hq]
          obtain ⟨i, hi⟩ := List.getElem?_of_mem hp
          have hil : i < j := by have := (List.getElem?_eq_some_iff.1 hi).1; omega
          obtain ⟨r', hr'⟩ : ∃ r', (rs.take j)[i]? = some r' := ⟨_, List.getElem?_eq_getElem (by rw [HJL.out]; exact hil)⟩
          have := (HROW.out.own i r' p hr' hi).1.lt
          have := HRS2.out
          omega
      case measure => obtain ⟨hn, hm⟩ := HNM.out; simp [intOf]; omega
    · obtain rfl : j = k := by omega
      have hfull : rs.take j = rs := List.take_of_length_le (by rw [HK.out]; exact Nat.le_refl _)
      rw [hfull] at hrow
      have HROW := hide hrow
      have HB := hide hB
      rw [Nat.sub_self]
      clear hrow hB hfull
      go_wp2
      go_ret2
      exact ⟨_, Rs, rfl, HROW.out, HB.out⟩
end Go.Proofs.Ytgfgihpkbbjkfaa
