/- UlogBrings, for what is of bounded bulk. -/
import Derived.Test.YtgfgihpkbbjkfaaPArNM
import Derived.Test.YtgfgihpkbbjkfaaUhLM
import Derived.Test.YtgfgihpkbbjkfaaUhRM
import Derived.Deep.QuietTactic
import Derived.BigQuiet
import Derived.WalkSmall
import Derived.Laws.AppendOwnNone
namespace Go.Proofs.Ytgfgihpkbbjkfaa
open Go.RowKit Go.Shelf
set_option linter.unusedVariables false
set_option maxRecDepth 100000

theorem slice_up8 (g e n cap : Nat) (he : e ≤ n) (hn : n ≤ cap) (hn1 : 1 ≤ n) (w : World) : (Instr.sliceAt 33 (.slice (some ⟨g, 0, none⟩) n cap) none (some (.int .i64 (e : Int))) none).run Try.prog w = .ok (.slice (some ⟨g, 0, none⟩) e cap) w := by
  obtain ⟨it, h1, h2⟩ := info_of (t := 5) (n := 1) (by kernel_rfl)
  have hu : Try.prog.underlying 33 = some (.slice 5) := by kernel_rfl
  have e3 : ¬ cap = 0 := by omega
  simp [Instr.sliceAt, Instr.slice, Sem.run_bind, run_underlying hu, Instr.sliceBounds, Instr.sliceBound, asIntOf, sizeOf, typeInfo, h1, Addr.add_mid, e3]
  intro hc
  omega
theorem sl_lo (g : Nat) (w : World) : (Instr.sliceAt 33 (.slice (some ⟨g, 0, none⟩) 1024 1024) none (some (.int .i64 128)) none).run Try.prog w = .ok (.slice (some ⟨g, 0, none⟩) 128 1024) w := by
  have h := slice_up8 g 128 1024 1024 (by omega) (by omega) (by omega) w
  rw [show ((128 : Nat) : Int) = 128 from rfl] at h
  exact h
theorem sl_hi (g : Nat) (w : World) : (Instr.sliceAt 33 (.slice (some ⟨g, 0, none⟩) 1024 1024) (some (.int .i64 512)) none none).run Try.prog w = .ok (.slice (some ⟨g, 512, none⟩) 512 512) w := by
  have h := slice_bytes g 0 512 1024 1024 (by omega) (by omega) w
  rw [show ((512 : Nat) : Int) = 512 from rfl, show 0 + 512 = 512 from rfl, show 1024 - 512 = 512 from rfl] at h
  exact h
/-- Two images, compared at both ends. -/
theorem eq_ends {W : World} {R2 R : Nat} {C : List Nat} (h2 : OwnB W R2 C) (h : OwnB W R (imgZ 8)) (hC : C.length = 1024) (hb : ∀ y ∈ C, y < 256) (lo : C.take 128 = (imgZ 8).take 128) (hi : C.drop 512 = (imgZ 8).drop 512) :
    (∀ X, Below W.heap.size W X → Calls Try.prog 22 #[.slice (some ⟨R2, 0, none⟩) 128 1024, .slice (some ⟨R, 0, none⟩) 128 1024] X fun e w' => e = .returned (.bool true) ∧ Below X.heap.size X w') ∧ (∀ X, Below W.heap.size W X → Calls Try.prog 22 #[.slice (some ⟨R2, 512, none⟩) 512 512, .slice (some ⟨R, 512, none⟩) 512 512] X fun e w' => e = .returned (.bool true) ∧ Below X.heap.size X w') := by
  have l1 : (C.take 128).length = 128 := by rw [List.length_take]; omega
  have l2 : ((imgZ 8).take 128).length = 128 := by rw [List.length_take, imgZ_len]; rfl
  have l3 : (C.drop 512).length = 512 := by rw [List.length_drop]; omega
  have l4 : ((imgZ 8).drop 512).length = 512 := by rw [List.length_drop, imgZ_len]
  have s1 : ∀ (W : World) (g : Nat) (B : List Nat), OwnB W g B → (∀ y ∈ B, y < 256) → Sl W (some ⟨g, 0, none⟩) (B.take 128) := fun W g B hO hB => .inr ⟨g, 0, rfl, hO.lt, fun i x hx => by
    rw [List.getElem?_take] at hx
    split at hx
    · rw [Nat.zero_add]
      exact ⟨hO.cell i x hx, hB x (List.mem_of_getElem? hx)⟩
    · cases hx⟩
  have s2 : ∀ (W : World) (g : Nat) (B : List Nat), OwnB W g B → (∀ y ∈ B, y < 256) → Sl W (some ⟨g, 512, none⟩) (B.drop 512) := fun W g B hO hB => .inr ⟨g, 512, rfl, hO.lt, fun i x hx => by
    rw [List.getElem?_drop] at hx
    exact ⟨hO.cell _ x hx, hB x (List.mem_of_getElem? hx)⟩⟩
  refine ⟨fun X hX => ?_, fun X hX => ?_⟩
  · have k := eqBytes_any (some ⟨R2, 0, none⟩) (some ⟨R, 0, none⟩) 1024 1024 (C.take 128) ((imgZ 8).take 128) X (s1 X R2 C (h2.below hX h2.lt) hb) (s1 X R _ (h.below hX h.lt) imgZ_lt) (by omega)
    rw [l1, l2, decide_eq_true lo] at k
    exact k.mono (fun e w' ⟨h5, n, h6⟩ => ⟨h5, by rw [h6]; exact below_drewN (Below.refl _ _) n⟩)
  · have k := eqBytes_any (some ⟨R2, 512, none⟩) (some ⟨R, 512, none⟩) 512 512 (C.drop 512) ((imgZ 8).drop 512) X (s2 X R2 C (h2.below hX h2.lt) hb) (s2 X R _ (h.below hX h.lt) imgZ_lt) (by omega)
    rw [l3, l4, decide_eq_true hi] at k
    exact k.mono (fun e w' ⟨h5, n, h6⟩ => ⟨h5, by rw [h6]; exact below_drewN (Below.refl _ _) n⟩)
theorem lg_madeB {w W : World} {b gl z : Nat} {L : Lay} (hd : DevL W b L (fromD 16 (imgZ 8))) (hN : L.N = 0) (hf : ∀ k, Foot b L (fromD 16 (imgZ 8)) k → w.heap.size ≤ k) (hl : LogL W gl b 128 z) (hB : Below w.heap.size w W) : ∃ σ, Lg w.heap.size W gl b 128 z L σ ∧ σ.n = 16 ∧ σ.ops = 0 ∧ σ.bytes = imgZ 8 ∧ (∀ j, σ.past j = []) ∧ L.N = 0 :=
  ⟨fromD 16 (imgZ 8), ⟨⟨hd, fromD_ok (by omega) (by omega) imgZ_len imgZ_lt, rfl, by rw [hN]; exact Nat.zero_le _, ⟨(fun _ ha => absurd ha List.not_mem_nil), by show 0 < _; omega⟩, Nat.le_refl _⟩, hl, rfl, hf, hB.size⟩, rfl, rfl, rfl, fun _ => rfl, hN⟩
/-- Behind a Write all lines have one content. -/
theorem wr_sure {a z N : Nat} {B : List Nat} {xs : List (Int × Int)} {σ : St} (hσ : σ.Ok) (hN : σ.n = N) (hB : B = σ.bytes) (hp : ∀ j, σ.past j = []) (hx : ∀ y ∈ xs, Fine a z N y) (hroom : (recsB B xs).length ≤ z - 64) (hz : 64 ≤ z) (haz : a + z ≤ 64 * N) (ha6 : a % 64 = 0) (hops : σ.ops + 30000000 ≤ 1400000000000) (hml : xs.length ≤ 4194304) :
    ∀ i, i < N → Every (acts (wrF B a xs) σ) i (· = (acts (wrF B a xs) σ).line i) := by
  have hmx := hσ.max
  have hB64 : B.length = 64 * N := by rw [hB, hσ.len, hN]
  have hb256 : ∀ y ∈ B, y < 256 := by rw [hB]; exact hσ.byte
  obtain ⟨R, hf⟩ := Recs.whole hσ hN hB hx hroom hz haz (by omega)
  have hro := R.like.ops
  have hrn := R.like.n
  have g0 := recs_good (N := N) (B := B) hb256 (by omega) xs (a + 64) (by omega)
  have r1 := rng_few (at_ := a + 64) (n := (recsB B xs).length) (by omega)
  have g1 := rng_good (N := N) (a + 64) (recsB B xs).length
  have l1 := acts_like (N := N) (rngF (a + 64) (recsB B xs).length) (acts (recsF B (a + 64) xs) σ) g1 R.like.ok (hrn.trans hN) (by omega)
  have o1 := l1.ops
  have n1 := l1.n
  have hE0 : ∀ i, Every σ i (· = σ.line i) := fun i => ⟨rfl, fun c hc => by rw [hp i] at hc; cases hc⟩
  have hall : ∀ i, i < N → Every (acts (rngF (a + 64) (recsB B xs).length) (acts (recsF B (a + 64) xs) σ)) i (· = (acts (rngF (a + 64) (recsB B xs).length) (acts (recsF B (a + 64) xs) σ)).line i) := fun i hi => by
    by_cases ho : 64 * i + 64 ≤ a + 64 ∨ a + 64 + (recsB B xs).length ≤ 64 * i
    · have h1 : Every (acts (recsF B (a + 64) xs) σ) i (· = σ.line i) := acts_every _ σ g0 (evf_recs hi (by omega) xs (a + 64) (by omega) (by omega)) hσ hN (by omega) (hE0 i)
      have h2 : Every (acts (rngF (a + 64) (recsB B xs).length) (acts (recsF B (a + 64) xs) σ)) i (· = σ.line i) := acts_every _ _ g1 (evf_rng _ _) R.like.ok (hrn.trans hN) (by omega) h1
      refine ⟨rfl, fun c hc => ?_⟩
      rw [h2.2 c hc]
      exact h2.1.symm
    · refine ⟨rfl, fun c hc => ?_⟩
      have hm : i ∈ linesOf (a + 64) (recsB B xs).length := by
        have := mem_linesOf (at_ := a + 64) (n := (recsB B xs).length) (i := 64 * i - (a + 64)) (by omega) (by omega)
        rwa [show (a + 64 + (64 * i - (a + 64))) / 64 = i by omega] at this
      rw [rng_one R.like.ok (hrn.trans hN) (by omega) hm] at hc
      cases hc
  have e : acts (wrF B a xs) σ = acts (pubF xs.length a) (acts (rngF (a + 64) (recsB B xs).length) (acts (recsF B (a + 64) xs) σ)) := by
    unfold wrF
    rw [acts_append, acts_append]
  rw [e]
  generalize acts (rngF (a + 64) (recsB B xs).length) (acts (recsF B (a + 64) xs) σ) = τ at *
  have hτn : τ.n = N := n1.trans (hrn.trans hN)
  have p1 := pub_few (v := xs.length) (at_ := a) (by omega)
  have g2 := pub_good (N := N) (v := xs.length) (at_ := a) (by omega) (by omega)
  intro i hi
  by_cases hia : i = a / 64
  · have hpast : (acts (pubF xs.length a) τ).past (a / 64) = [] := by
      have e2 : pubF xs.length a = wds (leB 8 xs.length) a (wordsOf a 8) ++ rngF a 8 := rfl
      rw [e2, acts_append]
      have lw := acts_like (N := N) (wds (leB 8 xs.length) a (wordsOf a 8)) τ (fun f hf => g2 f (by rw [e2]; exact List.mem_append_left _ hf)) l1.ok hτn (by rw [e2, List.length_append] at p1; omega)
      have ow := lw.ops
      refine rng_one (N := N) lw.ok (lw.n.trans hτn) (by rw [e2, List.length_append] at p1; omega) ?_
      have := mem_linesOf (at_ := a) (n := 8) (i := 0) (by omega) (by omega)
      rwa [Nat.add_zero] at this
    refine ⟨rfl, fun c hc => ?_⟩
    rw [hia, hpast] at hc
    cases hc
  · have h8 : (leB 8 xs.length).length = 8 := leB_length 8 _
    have h1 : Every (acts (pubF xs.length a) τ) i (· = τ.line i) := by
      refine acts_every _ τ g2 (fun f hf => ?_) l1.ok hτn (by omega) (hall i hi)
      unfold pubF at hf
      rcases List.mem_append.1 hf with h | h
      · have h2 := evf_wds (N := N) (i := i) (P := fun c => c = τ.line i) (bs := leB 8 xs.length) (cs := leB 8 xs.length) (at_ := a) hi (by omega) (by omega) (by omega)
        rw [h8] at h2
        exact h2 f h
      · rcases List.mem_append.1 h with h | h
        · exact evf_fl _ f h
        · rw [List.mem_singleton.1 h]
          exact evf_fn
    refine ⟨rfl, fun c hc => ?_⟩
    rw [h1.2 c hc]
    exact h1.1.symm
theorem sure_every {σ : St} {p x : Nat} (h : Every σ (p / 64) (· = σ.line (p / 64))) (hb : σ.bytes[p]? = some x) : Sure σ p x := by
  have h1 : (σ.line (p / 64))[p % 64]? = some x := by rw [line_get (by omega), show 64 * (p / 64) + p % 64 = p by omega]; exact hb
  exact ⟨h1, fun c hc => by rw [h.2 c hc]; exact h1⟩
/-- A Write of brought extents. -/
theorem br_write {B0 gl b k cap : Nat} {W : World} {L : Lay} {σ : St} {ea : Option Addr} {xs : List (Int × Int)} (h : Lg B0 W gl b 128 384 L σ) (hn : σ.n = 16) (ho : σ.ops = 0) (hb : σ.bytes = imgZ 8) (hp : ∀ j, σ.past j = []) (hN : L.N = 0) (hkx : k ≤ xs.length) (hk5 : k ≤ 5) (he : SlE W ea (brL xs k)) :
    Calls Try.prog 8 #[.pointer (some ⟨gl, 0, none⟩), .slice ea k cap] W fun e w' => e = .returned (.int .i64 0) ∧ ∃ L' s, Lg B0 w' gl b 128 384 L' s ∧ s.n = 16 ∧ s.ops ≤ 6000000 ∧ leV ((s.bytes.drop 128).take 8) = k ∧ RecsAt 128 384 16 s.bytes 192 (recL (imgZ 8) (brL xs k)) ∧ (∀ p x, p < 1024 → s.bytes[p]? = some x → Sure s p x) ∧ (∀ p, p < 128 ∨ 512 ≤ p → s.bytes[p]? = (imgZ 8)[p]?) ∧ L'.N ≤ 6000000 ∧ Kp8 B0 W w' := by
  obtain ⟨hn2, hn1⟩ := need_brought hkx hk5
  have hlen := brL_len hkx
  have hnum : leV ((σ.bytes.drop 128).take 8) = 0 := by rw [hb]; exact imgZ_num
  by_cases hk0 : k = 0
  · have kk := lwrite_none (cap := cap) h.log h.dv (by omega) (by omega) (by rw [hn]; omega) hnum he hlen (by omega) (.inr (by rw [hn]; exact hn1.2 hk0))
    rw [hn, hn2] at kk
    refine kk.mono ?_
    rintro e w' ⟨rfl, hB⟩
    refine ⟨rfl, L, σ, h.below hB, hn, by omega, by rw [hnum, hk0], ?_, fun p x _ hx => sure_of (hp _) hx, fun p _ => by rw [hb], by omega, Kp8.of_below hB h.big⟩
    have : brL xs k = [] := List.length_eq_zero_iff.1 (by rw [hlen, hk0])
    rw [this]
    trivial
  · obtain ⟨hfine, _, hroom⟩ := need_good (a := 128) (z := 384) (N := 16) (B := σ.bytes) (by rw [h.dv.ok.len, hn]) (by omega) (by omega) (by omega) (by omega) hn2
    have hmx := h.dv.ok.max
    have W8 := wr_after (N := 16) h.dv.ok hn rfl hfine hroom (by omega) (by omega) (by omega) (by omega)
    refine (lwrite_ok (cap := cap) h.log h.dv (by omega) (by omega) (by omega) (by rw [hn]; omega) (by omega) hnum he hlen (by omega) (by omega) (by rw [hn]; exact hn2)).mono ?_
    rintro e w' ⟨c, s, rfl, hr, ha⟩
    obtain ⟨rfl, rfl⟩ := hr.calm h.calm
    have h1 := W8.like.ops
    have h2 := W8.few
    obtain ⟨hgr, L', hd, hf, hNN⟩ := id ha
    obtain ⟨L2, hL, hS⟩ := h.went ha W8.like (by omega)
    have hsure := wr_sure (N := 16) h.dv.ok hn rfl hp hfine hroom (by omega) (by omega) (by omega) (by omega) (by omega)
    have hL' : Lg B0 w' gl b 128 384 L' (acts (wrF σ.bytes 128 (brL xs k)) σ) := by
      have hw := W8.like
      refine ⟨⟨hd, hw.ok, hw.off.trans h.dv.on, by omega, ⟨by rw [hw.arms]; exact h.dv.few.one, ?_⟩, ?_⟩, hL.log, hw.arms.trans h.calm, fun k hk => (hf k hk).elim (h.far k) (fun hk => Nat.le_trans h.big hk), hL.big⟩
      · rw [hw.cnt]
        have := h.dv.cn
        split <;> omega
      · rw [hw.cnt]
        have := h.dv.cn
        split <;> omega
    refine ⟨rfl, L', _, hL', W8.like.n.trans hn, by omega, by rw [W8.num, hlen], ?_, fun p x hpp hx => sure_every (hsure _ (by omega)) hx, fun p ho2 => ?_, by omega, Kp8.of_atd ha h⟩
    · have h3 := W8.recs
      rw [hb] at h3 ⊢
      exact h3
    · have hl1 : (imgZ 8).length = 1024 := imgZ_len
      have h8 : (leB 8 (brL xs k).length).length = 8 := leB_length 8 _
      rw [W8.bytes, hb]
      rw [hb] at hroom
      have hsl := splice_len (imgZ 8) (recsB (imgZ 8) (brL xs k)) (128 + 64) (by omega)
      rw [splice_get _ _ _ _ (by omega)]
      have h5 : (splice (imgZ 8) (128 + 64) (recsB (imgZ 8) (brL xs k)))[p]? = (imgZ 8)[p]? := by
        rw [splice_get _ _ _ _ (by omega)]
        split
        · rfl
        · rw [if_neg (by omega)]
      split
      · exact h5
      · rw [if_neg (by omega)]
        exact h5
/-- Wake. -/
theorem bw_wake {B0 gl b : Nat} {w : World} {L : Lay} {σ : St} (h : Bw B0 w gl b L σ) (ho : σ.off = true) : Calls Try.prog 17 #[.pointer (some ⟨b, 0, none⟩)] w fun e w' => e = .returned (.int .i64 0) ∧ Bw B0 w' gl b L { σ with off := false } ∧ Kp8 B0 w w' := by
  refine (pwake_off h.dev ho).mono ?_
  rintro e w' ⟨rfl, hw, hd⟩
  have hg : Gr (Foot b L σ) w w' := by rw [hw]; exact Gr.set w b 7 _ (.inl rfl)
  refine ⟨rfl, ⟨hd, ⟨h.ok.pos, h.ok.max, h.ok.len, h.ok.byte, h.ok.out, h.ok.clen, h.ok.cbyte, h.ok.few, h.ok.flp, h.ok.opsm⟩, hg.keep h.log (foot_nd h.dev h.log log_nd), h.num, ⟨h.few.one, h.few.cnt⟩, h.cn, h.far, Nat.le_trans h.big hg.size⟩, h.kp8 hg⟩
theorem Sure.woke {σ : St} {p x : Nat} (h : Sure σ p x) : Sure { σ with off := false } p x := h
theorem Dirty.woke {C : List Nat} {rs : List (Nat × List Nat)} {σ : St} (h : Dirty 16 C rs σ) : Dirty 16 C rs { σ with off := false } :=
  ⟨⟨h.ok.pos, h.ok.max, h.ok.len, h.ok.byte, h.ok.out, h.ok.clen, h.ok.cbyte, h.ok.few, h.ok.flp, h.ok.opsm⟩, h.n, fun p x h1 h2 h3 => h.sure p x h1 h2 h3⟩
theorem Clean.woke {B : List Nat} {σ : St} (h : Clean 16 128 384 B σ) : Clean 16 128 384 B { σ with off := false } :=
  ⟨⟨h.ok.pos, h.ok.max, h.ok.len, h.ok.byte, h.ok.out, h.ok.clen, h.ok.cbyte, h.ok.few, h.ok.flp, h.ok.opsm⟩, h.n, fun p x h1 h2 h3 => h.out p x h1 h2 h3, fun p h1 h2 => h.num p h1 h2⟩
/-- Crash, with nothing said of what is kept. -/
theorem bw_crash {B0 gl b : Nat} {w : World} {L : Lay} {σ : St} {B : List Nat} (h : Bw B0 w gl b L σ) (hc : Clean 16 128 384 B σ) (ho : σ.off = false) : Calls Try.prog 44 #[.pointer (some ⟨b, 0, none⟩), .slice none 0 0] w fun e w' => e = .returned (.int .i64 0) ∧ ∃ L' s, Bw B0 w' gl b L' s ∧ Clean 16 128 384 B s ∧ s.off = true ∧ Kp8 B0 w w' := by
  refine (pcrash_any (a := none) (kp := []) 0 h.dev h.ok ho ⟨by simp, .inl ⟨rfl, rfl⟩⟩ (by simp)).mono ?_
  rintro e w' ⟨rfl, L', s, hl, hd, hf, hg, hN⟩
  have hg2 : Gr (Foot b L σ) w w' := hg.mono (fun k hk => hk.elim (fun e => .inl e) (fun e => .inr (.inl e)))
  have hok := Lost.ok h.ok hl
  have h1 := h.num
  refine ⟨rfl, L', s, ⟨hd, hok, hg2.keep h.log (foot_nd h.dev h.log log_nd), by rw [hl.arms, hl.ops]; omega, ⟨by rw [hl.arms]; exact h.few.one, by rw [hl.cnt]; exact h.few.cnt⟩, by rw [hl.cnt, hl.ops]; exact h.cn, fun k hk => (hf k hk).elim (h.far k) (fun hk => Nat.le_trans h.big hk), Nat.le_trans h.big hg2.size⟩, hc.lost (by omega) (by omega) hl hok, hl.off, h.kp8 hg2⟩
theorem clean_ends {σ : St} (h : Clean 16 128 384 (imgZ 8) σ) : σ.bytes.take 128 = (imgZ 8).take 128 ∧ σ.bytes.drop 512 = (imgZ 8).drop 512 := by
  have hl : σ.bytes.length = 1024 := by rw [h.ok.len, h.n]
  have hi : (imgZ 8).length = 1024 := imgZ_len
  have hp : ∀ p, p < 1024 → p < 128 ∨ 512 ≤ p → σ.bytes[p]? = (imgZ 8)[p]? := fun p h1 h2 => by
    rw [List.getElem?_eq_getElem (l := imgZ 8) (by omega)]
    exact (h.out p _ (by omega) (by omega) (List.getElem?_eq_getElem (by omega))).seen
  refine ⟨List.ext_getElem? fun i => ?_, List.ext_getElem? fun i => ?_⟩
  · rw [List.getElem?_take, List.getElem?_take]
    split
    · exact hp i (by omega) (by omega)
    · rfl
  · rw [List.getElem?_drop, List.getElem?_drop]
    by_cases h1 : 512 + i < 1024
    · exact hp _ h1 (by omega)
    · rw [List.getElem?_eq_none (by omega), List.getElem?_eq_none (by omega)]
set_option maxHeartbeats 2000000 in
theorem ustill_any {B0 gl b R : Nat} {w : World} {L : Lay} {σ : St} (h : Bw B0 w gl b L σ) (hc : Clean 16 128 384 (imgZ 8) σ) (ho : σ.off = false) (hO : OwnB w R (imgZ 8)) :
    Calls Try.prog 19 #[.pointer (some ⟨b, 0, none⟩), .pointer (some ⟨gl, 0, none⟩), .slice (some ⟨R, 0, none⟩) 1024 1024] w fun e w' => e = .returned (.bool true) ∧ Below B0 w w' := by
  have H0 : Hid (∃ L' s, Bw B0 w gl b L' s ∧ Clean 16 128 384 (imgZ 8) s ∧ s.off = false ∧ OwnB w R (imgZ 8) ∧ Kp8 B0 w w) := ⟨L, σ, h, hc, ho, hO, Kp8.of_below (Below.refl _ _) h.big⟩
  clear h hc ho hO
  go_enter Try.func19, Try.ntmps19
  go_wp2
  go_loopw [7] (fun iv wr => ∃ t : Nat, iv = .int .i64 (t : Int) ∧ t ≤ 2 ∧ ∃ L' s, Bw B0 wr gl b L' s ∧ Clean 16 128 384 (imgZ 8) s ∧ s.off = false ∧ OwnB wr R (imgZ 8) ∧ Kp8 B0 w wr) (fun iv _ => (2 - (intOf iv).toNat))
  case atStart => exact ⟨0, rfl, by omega, H0.out⟩
  case round =>
    obtain ⟨t, rfl, ht, Li, si, hb, hc, ho, hO, hk⟩ := hrel
    by_cases hlt : t < 2
    · have tI : (t : Int) < 2 := by omega
      have hdv := hb.dv ho
      have KR := hide (lrecords_ok [] hb.log hdv (by omega) (by omega) (by rw [hc.n]; omega) (by rw [hc.number]; rfl) trivial (by simp))
      have ki := fun W (hB : Below wr.heap.size wr W) => pimg_any (hb.dev.below hB) hb.ok
      rw [hc.n] at ki
      have KI := hide ki
      have HBW := hide hb
      have HC := hide hc
      have HO := hide hO
      have HOF := hide ho
      have HK := hide hk
      clear hb hc ho hO hk hdv ki
      go_upto_region 6 with (first
        | (go_at_call 10; refine (KR.out).mono ?_; rintro e W8 ⟨v8, Rs, rfl, hrow8, hb8⟩; obtain ⟨ra, rc, rfl⟩ := hrow8.nil; have HB8 := hide hb8; clear hrow8 hb8)
        | (go_at_call 7; refine (KI.out _ HB8.out).mono ?_; rintro e W9 ⟨rfl, hO9, hb9⟩; have HO9 := hide hO9; have HB9 := hide hb9; clear hO9 hb9))
      have hX9 := bseq HB8.out HB9.out
      obtain ⟨R2, hR2⟩ : ∃ R2, W8.heap.size = R2 := ⟨_, rfl⟩
      rw [hR2] at HO9 ⊢
      have hOR : OwnB W9 R (imgZ 8) := HO.out.below hX9 HO.out.lt
      obtain ⟨lo8, hi8⟩ := clean_ends HC.out
      obtain ⟨ke1, ke2⟩ := eq_ends HO9.out hOR (by rw [HC.out.ok.len, HC.out.n]) HC.out.ok.byte lo8 hi8
      have KE1 := hide ke1
      have KE2 := hide ke2
      have HX9 := hide hX9
      have HOR := hide hOR
      clear ke1 ke2 hX9 hOR lo8 hi8 KR KI hR2
      try go_frame
      refine wp_region_held_drew (S := fun Y => Below W9.heap.size W9 Y) (by kernel_rfl) (Below.refl _ W9).drew (fun hS => ?_)
      refine wpAnyH_take (i := 0) (v := (.int .i64 0)) rfl (by kernel_rfl) (by kernel_rfl) (by kernel_rfl) (fun _ _ _ h => h) (Or.inl ⟨by kernel_rfl, fun w' hw => by (go_simp)⟩) hS ?_
      refine wpAnyH_take (i := 1) (v := (.bool false)) rfl (by kernel_rfl) (by kernel_rfl) (by kernel_rfl) (fun _ _ _ h => h) (Or.inl ⟨by kernel_rfl, fun w' hw => by (go_simp)⟩) hS ?_
      refine wpAnyH_take (i := 2) (v := (.bool false)) rfl (by kernel_rfl) (by kernel_rfl) (by kernel_rfl) (fun _ _ _ h => h) (Or.inl ⟨by kernel_rfl, fun w' hw => by (go_simp)⟩) hS ?_
      refine wpAnyH_take (i := 3) (v := (.slice ra 0 rc)) rfl (by kernel_rfl) (by kernel_rfl) (by kernel_rfl) (fun _ _ _ h => h) (Or.inl ⟨by kernel_rfl, fun w' hw => by (go_simp)⟩) hS ?_
      refine wpAnyH_take (i := 4) (v := (.int .i64 0)) rfl (by kernel_rfl) (by kernel_rfl) (by kernel_rfl) (fun _ _ _ h => h) (Or.inl ⟨by kernel_rfl, fun w' hw => by (go_simp)⟩) hS ?_
      refine wpAnyH_take (i := 5) (v := (.bool false)) rfl (by kernel_rfl) (by kernel_rfl) (by kernel_rfl) (fun _ _ _ h => h) (Or.inl ⟨by kernel_rfl, fun w' hw => by (go_simp)⟩) hS ?_
      refine wpAnyH_take (i := 6) (v := (.bool false)) rfl (by kernel_rfl) (by kernel_rfl) (by kernel_rfl) (fun _ _ _ h => h) (Or.inl ⟨by kernel_rfl, fun w' hw => by (go_simp)⟩) hS ?_
      refine wpAnyH_take (i := 7) (v := (.bool false)) rfl (by kernel_rfl) (by kernel_rfl) (by kernel_rfl) (fun _ _ _ h => h) (Or.inl ⟨by kernel_rfl, fun w' hw => by (go_simp)⟩) hS ?_
      refine wpAnyH_take (i := 8) (v := (.slice (some ⟨R2, 0, none⟩) 1024 1024)) rfl (by kernel_rfl) (by kernel_rfl) (by kernel_rfl) (fun _ _ _ h => h) (Or.inl ⟨by kernel_rfl, fun w' hw => by (go_simp)⟩) hS ?_
      refine wpAnyH_take (i := 9) (v := (.int .i64 1024)) rfl (by kernel_rfl) (by kernel_rfl) (by kernel_rfl) (fun _ _ _ h => h) (Or.inl ⟨by kernel_rfl, fun w' hw => by (go_simp)⟩) hS ?_
      refine wpAnyH_take (i := 10) (v := (.slice (some ⟨R, 0, none⟩) 1024 1024)) rfl (by kernel_rfl) (by kernel_rfl) (by kernel_rfl) (fun _ _ _ h => h) (Or.inl ⟨by kernel_rfl, fun w' hw => by (go_simp)⟩) hS ?_
      refine wpAnyH_take (i := 11) (v := (.int .i64 1024)) rfl (by kernel_rfl) (by kernel_rfl) (by kernel_rfl) (fun _ _ _ h => h) (Or.inl ⟨by kernel_rfl, fun w' hw => by (go_simp)⟩) hS ?_
      refine wpAnyH_take (i := 12) (v := (.bool false)) rfl (by kernel_rfl) (by kernel_rfl) (by kernel_rfl) (fun _ _ _ h => h) (Or.inl ⟨by kernel_rfl, fun w' hw => by (go_simp)⟩) hS ?_
      refine wpAnyH_take (i := 13) (v := (.bool false)) rfl (by kernel_rfl) (by kernel_rfl) (by kernel_rfl) (fun _ _ _ h => h) (Or.inl ⟨by kernel_rfl, fun w' hw => by (go_simp)⟩) hS ?_
      refine wpAnyH_take (i := 14) (v := (.bool false)) rfl (by kernel_rfl) (by kernel_rfl) (by kernel_rfl) (fun _ _ _ h => h) (Or.inl ⟨by kernel_rfl, fun w' hw => by (go_simp)⟩) hS ?_
      refine wpAnyH_take (i := 15) (v := (.slice (some ⟨R2, 0, none⟩) 1024 1024)) rfl (by kernel_rfl) (by kernel_rfl) (by kernel_rfl) (fun _ _ _ h => h) (Or.inl ⟨by kernel_rfl, fun w' hw => by (go_simp)⟩) hS ?_
      refine wpAnyH_take (i := 16) (v := (.slice (some ⟨R2, 0, none⟩) 128 1024)) rfl (by kernel_rfl) (by kernel_rfl) (by kernel_rfl) (fun _ _ _ h => h) (Or.inl ⟨by kernel_rfl, fun w' hw => by (have e := sl_lo R2 w'; go_simp)⟩) hS ?_
      refine wpAnyH_take (i := 17) (v := (.slice (some ⟨R, 0, none⟩) 1024 1024)) rfl (by kernel_rfl) (by kernel_rfl) (by kernel_rfl) (fun _ _ _ h => h) (Or.inl ⟨by kernel_rfl, fun w' hw => by (go_simp)⟩) hS ?_
      refine wpAnyH_take (i := 18) (v := (.slice (some ⟨R, 0, none⟩) 128 1024)) rfl (by kernel_rfl) (by kernel_rfl) (by kernel_rfl) (fun _ _ _ h => h) (Or.inl ⟨by kernel_rfl, fun w' hw => by (have e := sl_lo R w'; go_simp)⟩) hS ?_
      refine wpAnyH_goS (i := 19) (by kernel_rfl) rfl (by kernel_rfl) (fun K hK => ?_)
      go_wp2_with (go_at_call 22; refine (KE1.out _ hS).mono ?_; rintro e WE ⟨rfl, hb⟩; have HBE := hide (bseq hS hb); clear hb)
      have hS1 := (show Below W9.heap.size W9 WE from HBE.out)
      refine hK.out _ _ hS1 ?_
      clear hK K
      refine wpAnyH_take (i := 20) (v := (.bool false)) rfl (by kernel_rfl) (by kernel_rfl) (by kernel_rfl) (fun _ _ _ h => h) (Or.inl ⟨by kernel_rfl, fun w' hw => by (go_simp)⟩) hS1 ?_
      refine wpAnyH_take (i := 21) (v := (.bool false)) rfl (by kernel_rfl) (by kernel_rfl) (by kernel_rfl) (fun _ _ _ h => h) (Or.inl ⟨by kernel_rfl, fun w' hw => by (go_simp)⟩) hS1 ?_
      refine wpAnyH_take (i := 22) (v := (.bool false)) rfl (by kernel_rfl) (by kernel_rfl) (by kernel_rfl) (fun _ _ _ h => h) (Or.inl ⟨by kernel_rfl, fun w' hw => by (go_simp)⟩) hS1 ?_
      refine wpAnyH_take (i := 23) (v := (.slice (some ⟨R2, 0, none⟩) 1024 1024)) rfl (by kernel_rfl) (by kernel_rfl) (by kernel_rfl) (fun _ _ _ h => h) (Or.inl ⟨by kernel_rfl, fun w' hw => by (go_simp)⟩) hS1 ?_
      refine wpAnyH_take (i := 24) (v := (.slice (some ⟨R2, 512, none⟩) 512 512)) rfl (by kernel_rfl) (by kernel_rfl) (by kernel_rfl) (fun _ _ _ h => h) (Or.inl ⟨by kernel_rfl, fun w' hw => by (have e := sl_hi R2 w'; go_simp)⟩) hS1 ?_
      refine wpAnyH_take (i := 25) (v := (.slice (some ⟨R, 0, none⟩) 1024 1024)) rfl (by kernel_rfl) (by kernel_rfl) (by kernel_rfl) (fun _ _ _ h => h) (Or.inl ⟨by kernel_rfl, fun w' hw => by (go_simp)⟩) hS1 ?_
      refine wpAnyH_take (i := 26) (v := (.slice (some ⟨R, 512, none⟩) 512 512)) rfl (by kernel_rfl) (by kernel_rfl) (by kernel_rfl) (fun _ _ _ h => h) (Or.inl ⟨by kernel_rfl, fun w' hw => by (have e := sl_hi R w'; go_simp)⟩) hS1 ?_
      refine wpAnyH_goS (i := 27) (by kernel_rfl) rfl (by kernel_rfl) (fun K hK => ?_)
      go_wp2_with (go_at_call 22; refine (KE2.out _ hS1).mono ?_; rintro e WF ⟨rfl, hb⟩; have HBF := hide (bseq hS1 hb); clear hb)
      have hS2 := (show Below W9.heap.size W9 WF from HBF.out)
      refine hK.out _ _ hS2 ?_
      clear hK K
      refine wpAnyH_take (i := 28) (v := (.bool false)) rfl (by kernel_rfl) (by kernel_rfl) (by kernel_rfl) (fun _ _ _ h => h) (Or.inl ⟨by kernel_rfl, fun w' hw => by (go_simp)⟩) hS2 ?_
      refine wpAnyH_take (i := 29) (v := (.bool false)) rfl (by kernel_rfl) (by kernel_rfl) (by kernel_rfl) (fun _ _ _ h => h) (Or.inl ⟨by kernel_rfl, fun w' hw => by (go_simp)⟩) hS2 ?_
      refine wpAnyH_done (by kernel_rfl) ?_ _
      simp only [Act.put, List.getElem_toArray, List.getElem_cons_zero, List.getElem_cons_succ, List.setIfInBounds_toArray, List.set_cons_zero, List.set_cons_succ]
      have HBF9 := hide (bseq HX9.out HBF.out)
      have HBWF := hide (HBW.out.below HBF9.out)
      have HORF := hide (HOR.out.below HBF.out HOR.out.lt)
      have HKF := hide (HK.out.trans (Kp8.of_below HBF9.out HBW.out.big))
      by_cases ht0 : t = 0
      · have KCR := hide (bw_crash HBWF.out HC.out HOF.out)
        have t0I : ((t : Int) == 0) = true := by simp [ht0]
        have t0D : decide ((t : Int) = 0) = true := decide_eq_true (by omega)
        have HT0 := hide ht0
        clear ht0
        go_wp2_with (first
          | (go_at_call 44; refine (KCR.out).mono ?_; rintro e WA ⟨rfl, LA, sA, hbA, hcA, hoA, hkA⟩; have HBA := hide hbA; have HCA := hide hcA; have HKA := hide hkA; have KWK := hide (bw_wake hbA hoA); clear hbA hcA hoA hkA)
          | (go_at_call 17; refine (KWK.out).mono ?_; rintro e WB ⟨rfl, hbB, hkB⟩; have HBB := hide hbB; have HKB := hide hkB; clear hbB hkB))
        go_roundw
        case rel => exact ⟨t + 1, int_congrP (by omega), by omega, LA, _, HBB.out, HCA.out.woke, rfl, HKB.out.keep R _ _ _ (HKA.out.keep R _ _ _ HORF.out byte_nd) byte_nd, (HKF.out.trans HKA.out).trans HKB.out⟩
        case measure => simp [intOf]; omega
      · have t0I : ((t : Int) == 0) = false := by simp; omega
        have t0D : decide ((t : Int) = 0) = false := decide_eq_false (by omega)
        clear ht0
        go_wp2_with (fail)
        go_roundw
        case rel => exact ⟨t + 1, int_congrP (by omega), by omega, Li, si, HBWF.out, HC.out, HOF.out, HORF.out, HKF.out⟩
        case measure => simp [intOf]; omega
    · have tI : ¬ (t : Int) < 2 := by omega
      clear hb hc ho hO
      go_wp2_with (fail)
      go_ret
      exact ⟨rfl, hk.below⟩
end Go.Proofs.Ytgfgihpkbbjkfaa
namespace Go.Proofs.Ytgfgihpkbbjkfaa
open Go.RowKit Go.Shelf
set_option linter.unusedVariables false
set_option maxRecDepth 100000

theorem bel_kp {w V V' : World} {B0 : Nat} (h : Below w.heap.size w V) (hB : w.heap.size ≤ B0) (k : Below B0 V V') : Below w.heap.size w V' := h.trans (k.mono hB)
theorem leV_all0 : ∀ l : List Nat, leV l = 0 → ∀ y ∈ l, y = 0
  | [], _, y, hy => by cases hy
  | x :: t, h, y, hy => by
    have h1 : leV t = 0 ∧ x = 0 := by
      simp only [leV] at h
      omega
    rcases List.mem_cons.1 hy with rfl | hy
    · exact h1.2
    · exact leV_all0 t h1.1 y hy
/-- What was written. -/
structure Brn (C : List Nat) (rs : List (Nat × List Nat)) : Prop where
  len : C.length = 1024
  out : ∀ p, p < 128 ∨ 512 ≤ p → C[p]? = (imgZ 8)[p]?
  each : ∀ r ∈ rs, Bk1 16 r ∧ r.2 = ((imgZ 8).drop r.1).take r.2.length ∧ (r.1 + r.2.length ≤ 128 ∨ 512 ≤ r.1)
  num : leV ((C.drop 128).take 8) = rs.length
  recs : RecsAt 128 384 16 C 192 rs
theorem recL_each {xs : List (Int × Int)} {k : Nat} : ∀ r ∈ recL (imgZ 8) (brL xs k), Bk1 16 r ∧ r.2 = ((imgZ 8).drop r.1).take r.2.length ∧ (r.1 + r.2.length ≤ 128 ∨ 512 ≤ r.1) := by
  intro r hr
  unfold recL at hr
  obtain ⟨x, hx, rfl⟩ := List.mem_map.1 hr
  have h1 := brL_in x hx
  have h2 := fine_old (brL_fine x hx) imgZ_len
  refine ⟨⟨by show 1 ≤ (oldOf (imgZ 8) x).length; omega, by show x.1.toNat + (oldOf (imgZ 8) x).length ≤ 64 * 16; omega, fun y hy => ?_⟩, ?_, by show x.1.toNat + (oldOf (imgZ 8) x).length ≤ 128 ∨ 512 ≤ x.1.toNat; omega⟩
  · have hy : y ∈ oldOf (imgZ 8) x := hy
    unfold oldOf at hy
    exact imgZ_lt y (List.mem_of_mem_drop (List.mem_of_mem_take hy))
  · show oldOf (imgZ 8) x = ((imgZ 8).drop x.1.toNat).take (oldOf (imgZ 8) x).length
    rw [h2]
    rfl
theorem recL_cov {xs : List (Int × Int)} {k : Nat} : ∀ x ∈ brL xs k, 0 ≤ x.1 ∧ 1 ≤ x.2 ∧ x.1 + x.2 ≤ 1024 ∧ ∀ p : Nat, x.1 ≤ (p : Int) → (p : Int) < x.1 + x.2 → Cov (recL (imgZ 8) (brL xs k)) p := by
  intro x hx
  have h1 := brL_in x hx
  have h2 := fine_old (brL_fine x hx) imgZ_len
  refine ⟨by omega, by omega, by omega, fun p hp1 hp2 => ⟨(x.1.toNat, oldOf (imgZ 8) x), List.mem_map.2 ⟨x, hx, rfl⟩, ?_, ?_⟩⟩
  · show x.1.toNat ≤ p
    omega
  · show p < x.1.toNat + (oldOf (imgZ 8) x).length
    omega
theorem clean_dirty0 {C : List Nat} {s : St} (D : Dirty 16 C [] s) (hCl : C.length = 1024) (hCB : ∀ p, p < 128 ∨ 512 ≤ p → C[p]? = (imgZ 8)[p]?) (hnum : leV ((C.drop 128).take 8) = 0) : Clean 16 128 384 (imgZ 8) s := by
  have nc : ∀ p, ¬ Cov [] p := fun p ⟨r, hr, _⟩ => by cases hr
  refine ⟨D.ok, D.n, fun p x hp ho hx => D.sure p x hp (nc p) ((hCB p (by omega)).trans hx), fun p h1 h2 => D.sure p 0 (by omega) (nc p) ?_⟩
  have h3 : ((C.drop 128).take 8)[p - 128]? = C[p]? := by rw [List.getElem?_take, if_pos (by omega), List.getElem?_drop, show 128 + (p - 128) = p by omega]
  have h4 : p < C.length := by omega
  have h5 := leV_all0 _ hnum C[p] (List.mem_of_getElem? (h3.trans (List.getElem?_eq_getElem h4)))
  rw [List.getElem?_eq_getElem h4, h5]
theorem dirty_armed {s : St} {rl : List (Nat × List Nat)} {ar : List (Nat × List Nat)} (hok : s.Ok) (hn : s.n = 16) (hs : ∀ p x, p < 1024 → s.bytes[p]? = some x → Sure s p x) : Dirty 16 s.bytes rl { s with arms := ar } :=
  ⟨⟨hok.pos, hok.max, hok.len, hok.byte, hok.out, hok.clen, hok.cbyte, hok.few, hok.flp, hok.opsm⟩, hn, fun p x hp _ hx => hs p x hp hx⟩
/-- Either what was stored is brought back yet, or all stands as it stood. -/
def Dc (C : List Nat) (rs : List (Nat × List Nat)) (s : St) : Prop := (1 ≤ rs.length ∧ Dirty 16 C rs s) ∨ Clean 16 128 384 (imgZ 8) s
theorem Dc.of {C : List Nat} {rs : List (Nat × List Nat)} {s : St} (h : Brn C rs) (D : Dirty 16 C rs s) : Dc C rs s := by
  by_cases h0 : 1 ≤ rs.length
  · exact .inl ⟨h0, D⟩
  · have e : rs = [] := List.length_eq_zero_iff.1 (by omega)
    subst e
    exact .inr (clean_dirty0 D h.len h.out h.num)
theorem Dc.woke {C : List Nat} {rs : List (Nat × List Nat)} {s : St} (h : Dc C rs s) : Dc C rs { s with off := false } := h.imp (fun h => ⟨h.1, h.2.woke⟩) (fun h => h.woke)
theorem br_roll {B0 gl b k : Nat} {w : World} {L : Lay} {σ : St} {C : List Nat} {rs : List (Nat × List Nat)} (h : Bw B0 w gl b L σ) (hb : Brn C rs) (D : Dc C rs σ) (ho : σ.off = false) (hops : σ.ops + 50000000 ≤ 1400000000000) (hk : rs.length = k) (hk5 : k ≤ 5) :
    Calls Try.prog 18 #[.pointer (some ⟨gl, 0, none⟩)] w fun e w' => ∃ (c n : Int), e = .returned (.tuple #[.int .i64 n, .int .i64 c]) ∧ ∃ L' s, Bw B0 w' gl b L' s ∧ Kp8 B0 w w' ∧ s.ops ≤ σ.ops + 20000000 ∧ ((c = 0 ∧ (n = 0 ∨ n = (k : Int) ∧ 1 ≤ k) ∧ s.off = false ∧ Clean 16 128 384 (imgZ 8) s) ∨ (c = 5 ∧ Dc C rs s ∧ s.arms.length + 1 = σ.arms.length)) := by
  rcases D with ⟨h1, D⟩ | hc
  · refine (bw_rollback h D ho hops imgZ_len hb.len hb.out hb.each hb.num hb.recs (by omega) h1).mono ?_
    rintro e w' ⟨c, rfl, L', s, hr⟩
    refine ⟨c, _, rfl, L', s, hr.bw, hr.kp, hr.ops, ?_⟩
    rcases hr.code with ⟨rfl, h2, h3, h4⟩ | ⟨rfl, h2, h3, h4⟩
    · exact .inl ⟨rfl, .inr ⟨by rw [if_pos rfl, hk], by omega⟩, h2, h3⟩
    · exact .inr ⟨rfl, h3.imp (fun h => ⟨h1, h⟩) id, h4⟩
  · refine (lrollback_none h.log (h.dv ho) (by omega) (by omega) (by rw [hc.n]; omega) hc.number).mono ?_
    rintro e w' ⟨rfl, hB⟩
    exact ⟨0, 0, rfl, L, σ, h.below hB, Kp8.of_below hB h.big, by omega, .inl ⟨rfl, .inl rfl, ho, hc⟩⟩
theorem br_arm {B0 gl b k : Nat} {W W' : World} {L : Lay} {σ : St} {v : Value} {ars : List (Int × List Int)} (h : Lg B0 W gl b 128 384 L σ) (hn : σ.n = 16) (hN : L.N ≤ 6000000) (hq : RowQ W' W.heap.size v (avL ars k)) (hB : Below W.heap.size W W') (hk : k ≤ ars.length) (hk6 : k ≤ 6) (hl : ∀ x ∈ ars, x.2.length ≤ 1048576) :
    ∃ aa ca, v = .slice aa k ca ∧ Calls Try.prog 13 #[.pointer (some ⟨b, 0, none⟩), .slice aa k ca] W' fun e w' => e = .returned (.int .i64 0) ∧ ∃ (L' : Lay) (ar : List (Nat × List Nat)), Bw B0 w' gl b L' { σ with arms := ar } ∧ ar.length ≤ 6 ∧ Kp8 B0 W' w' := by
  obtain ⟨aa, ca, rfl, hin⟩ := hq.arms (L := L) (fun g hg => h.dv.dev.foot_is (.inr (.inr (.inr (.inr (.inr (.inl hg))))))) (fun y hy => by have := avL_mem hl y hy; exact ⟨this.1, this.2.2.1⟩)
  have hlen := avL_len hk
  refine ⟨aa, ca, by rw [hlen], ?_⟩
  have h' := h.below hB
  have hok := h'.dv.ok
  have hbw0 : Bw B0 W' gl b L σ := ⟨h'.dv.dev, h'.dv.ok, h'.log, by rw [h'.calm]; simp; omega, h'.dv.few, h'.dv.cn, h'.far, h'.big⟩
  refine (parm_list (n := k) (ca := ca) h'.dv.dev h'.dv.ok h'.dv.on h'.calm hlen (by omega) hin).mono ?_
  rintro e w' ⟨rfl, L', hd, hf, hg, hN'⟩
  have hal : ((avL ars k).map (kpOf σ.n)).length = k := by rw [List.length_map]; exact hlen
  refine ⟨rfl, L', (avL ars k).map (kpOf σ.n), ⟨hd, ⟨hok.pos, hok.max, hok.len, hok.byte, hok.out, hok.clen, hok.cbyte, hok.few, hok.flp, hok.opsm⟩, hg.keep h'.log (foot_nd h'.dv.dev h'.log log_nd), ?_, ⟨fun a ha => ?_, h'.dv.few.cnt⟩, h'.dv.cn, fun j hj => (hf j hj).elim (h'.far j) (fun hj => Nat.le_trans h'.big hj), Nat.le_trans h'.big hg.size⟩, by omega, hbw0.kp8 hg⟩
  · show L'.N + 20000000 * ((avL ars k).map (kpOf σ.n)).length ≤ σ.ops + 200000000
    rw [hal]
    omega
  · have ha : a ∈ (avL ars k).map (kpOf σ.n) := ha
    obtain ⟨y, hy, rfl⟩ := List.mem_map.1 ha
    obtain ⟨_, _, y3, y4⟩ := avL_mem hl y hy
    refine ⟨fun x hx => ?_, ?_⟩
    · have hx : x ∈ (y.2.map Int.toNat).take (min y.2.length σ.n) := hx
      obtain ⟨z, hz, rfl⟩ := List.mem_map.1 (List.mem_of_mem_take hx)
      have := y4 z hz
      omega
    · show ((y.2.map Int.toNat).take (min y.2.length σ.n)).length ≤ _
      rw [List.length_take, List.length_map]
      omega
/-- A story in its variable. -/
theorem st_cells {W : World} {B : Nat} {ea a1 a2 : Option Addr} {m c m1 c1 m2 c2 : Nat} {lg : Bool} (h : W.heap[B]? = some (.cells #[.slice ea m c, .slice a1 m1 c1, .slice a2 m2 c2, .bool lg] 26 (0, 0))) : W.cell? ⟨B, 0, none⟩ = some (.slice ea m c) ∧ W.cell? ⟨B, 1, none⟩ = some (.slice a1 m1 c1) ∧ W.cell? ⟨B, 2, none⟩ = some (.slice a2 m2 c2) ∧ W.cell? ⟨B, 3, none⟩ = some (.bool lg) := ⟨cell8 h 0, cell8 h 1, cell8 h 2, cell8 h 3⟩
/-- In a turn. -/
structure Tn (B0 : Nat) (w : World) (gl b R : Nat) (C : List Nat) (rs : List (Nat × List Nat)) (wr : World) (t : Nat) (L : Lay) (s : St) : Prop where
  bw : Bw B0 wr gl b L s
  dc : Dc C rs s
  arms : s.arms.length + t ≤ 6
  ops : s.ops ≤ 1300000000 + 20000000 * t
  own : OwnB wr R (imgZ 8)
  kp : Kp8 B0 w wr
theorem Tn.woke {B0 gl b R t : Nat} {w wr W : World} {C : List Nat} {rs : List (Nat × List Nat)} {L : Lay} {s : St} (h : Tn B0 w gl b R C rs wr t L s) (hb : Bw B0 W gl b L { s with off := false }) (hk : Kp8 B0 wr W) : Tn B0 w gl b R C rs W t L { s with off := false } :=
  ⟨hb, h.dc.woke, h.arms, h.ops, hk.keep R _ _ _ h.own byte_nd, h.kp.trans hk⟩
end Go.Proofs.Ytgfgihpkbbjkfaa
namespace Go.Proofs.Ytgfgihpkbbjkfaa
open Go.RowKit Go.Shelf
set_option linter.unusedVariables false
set_option maxRecDepth 100000

theorem slice_ext (g e n cap : Nat) (he : e ≤ n) (hn : n ≤ cap) (hn1 : 1 ≤ n) (hsm : n ≤ 4194304) (w : World) : (Instr.sliceAt 22 (.slice (some ⟨g, 0, none⟩) n cap) none (some (.int .i64 (e : Int))) none).run Try.prog w = .ok (.slice (some ⟨g, 0, none⟩) e cap) w := by
  obtain ⟨it, h1, h2⟩ := info_of (t := 52) (n := 2) (by kernel_rfl)
  have hu : Try.prog.underlying 22 = some (.slice 52) := by kernel_rfl
  have c1 : (e : Int) ≤ (cap : Int) := by omega
  have e3 : ¬ cap = 0 := by omega
  simp [Instr.sliceAt, Instr.slice, Sem.run_bind, run_underlying hu, Instr.sliceBounds, Instr.sliceBound, asIntOf, sizeOf, typeInfo, h1, Addr.add_mid, e3]
  intro hc
  omega
/-- What is laid behind. -/
def moreE (i : Nat) : List (Int × Int) := (List.range i).map (fun (j : Nat) => ((64 : Int), 1 + (j : Int)))
theorem moreE_succ (i : Nat) : moreE (i + 1) = moreE i ++ [(64, 1 + (i : Int))] := by
  unfold moreE
  rw [List.range_succ]
  simp
theorem exC_app (xs ys : List (Int × Int)) : exC (xs ++ ys) = exC xs ++ exC ys := by simp [exC]
theorem exC_len (xs : List (Int × Int)) : (exC xs).length = xs.length * 2 := by
  induction xs with
  | nil => rfl
  | cons x t ih =>
    have e : exC (x :: t) = .int .i64 x.1 :: .int .i64 x.2 :: exC t := rfl
    rw [e, List.length_cons, List.length_cons, ih, List.length_cons]
    omega
theorem exC_one (xs : List (Int × Int)) : ∀ u ∈ exC xs, u.oneCell' = true := by
  intro u hu
  unfold exC at hu
  obtain ⟨x, _, h⟩ := List.mem_flatMap.1 hu
  simp at h
  rcases h with rfl | rfl <;> rfl
set_option maxHeartbeats 2000000 in
theorem uext_any {w : World} {base k : Nat} {v : Value} {xs : List (Int × Int)} (h : w.ownsRow base 52 2 v k (exC xs)) (hk : xs.length = k) (hk5 : k ≤ 1000) (hb : ∀ x ∈ xs, (-9223372036854775808 ≤ x.1 ∧ x.1 ≤ 9223372036854775807) ∧ (-9223372036854775808 ≤ x.2 ∧ x.2 ≤ 9223372036854775807)) :
    Calls Try.prog 9 #[v] w fun e w' => ∃ v', e = .returned v' ∧ ∃ g cp, v' = .slice (some ⟨g, 0, none⟩) k cp ∧ SlE w' (some ⟨g, 0, none⟩) xs ∧ Below w.heap.size w w' := by
  obtain ⟨i0, hi0, hz0, hz1, hz2⟩ := infoExt
  have HB := hide hb
  have HK := hide hk
  have rest : ∀ (W : World) (u : Value), W.ownsRow w.heap.size 52 2 u k (exC xs) → Below w.heap.size w W → W.ownsRow w.heap.size 52 2 u (k + 0) (exC (xs ++ moreE 0)) ∧ Below w.heap.size w W := fun W u h1 h2 => ⟨by rw [show moreE 0 = [] from rfl, List.append_nil]; exact h1, h2⟩
  have REST := hide rest
  rcases h.2 with ⟨rfl, rfl⟩ | ⟨g0, cp0, cur, rfl, q1, q2, q3, q4, q5, q6⟩
  · obtain rfl : xs = [] := List.length_eq_zero_iff.1 hk
    clear h rest hb hk
    go_enter Try.func9, Try.ntmps9
    go_wp2_with (at_builtin; refine wpList_append_own_none rfl _ _ 22 rfl w.heap.size 52 i0 2 Try.underlying22 hi0 (.slice none 0 0) 0 [] rfl (World.ownsRow_nil _ _ _ _) rfl ?_)
    have hst := REST.out w (.slice none 0 0) (World.ownsRow_nil _ _ _ _) (Below.refl _ _)
    have HST := hide hst
    clear hst
    go_wp2
    go_loopw [3, 4] (fun lv iv wr => ∃ i : Nat, iv = .int .i64 (i : Int) ∧ i ≤ 5 ∧ wr.ownsRow w.heap.size 52 2 lv (0 + i) (exC ([] ++ moreE i)) ∧ Below w.heap.size w wr) (fun _ iv _ => (5 - (intOf iv).toNat))
    case atStart => exact ⟨0, rfl, Nat.zero_le _, HST.out.1, HST.out.2⟩
    case round =>
      obtain ⟨i, rfl, hi5, hr, hB⟩ := hrel
      by_cases hlt : i < 5
      · have iI : (i : Int) < 5 := by omega
        have hw : IntKind.i64.wrap (1 + (i : Int)) = 1 + (i : Int) := by rw [IntKind.wrap_i64]; omega
        have hms := moreE_succ i
        have hA1 : Below wr.heap.size wr (wr.alloc (.cells #[.int .i64 64, .int .i64 (1 + (i : Int))] 52)) := (Below.refl _ wr).alloc (Nat.le_refl _) _
        have HO2 := hide (own_below hr hA1)
        have HB2 := hide (bseq hB hA1)
        have hsz2 : w.heap.size ≤ (wr.alloc (.cells #[.int .i64 64, .int .i64 (1 + (i : Int))] 52)).heap.size := HB2.out.size
        have HMS := hide hms
        clear hr hB hA1 hms
        go_wp2_with (at_builtin; refine wpList_append_own_at _ rfl _ _ 22 rfl w.heap.size 52 i0 (.agg #[.int .i64 0, .int .i64 0]) 2 16 Try.underlying22 hi0 hz0 hz1 hz2 rfl (by decide) u3 (0 + i) (exC ([] ++ moreE i)) rfl HO2.out ⟨wr.heap.size, 0, none⟩ 1 1 [.int .i64 64, .int .i64 (1 + (i : Int))] rfl rfl (cell_twoU wr _ _ _) (by simp [Value.oneCell']) (by unfold maxLen; omega) (by omega) hsz2 ?_; intro v3 x3 ho3 hg3 hnn hat; clear hnn hat; have HO3 := hide ho3; have HB3 := hide (bel_of_grownT HB2.out HO2.out hg3); clear ho3 hg3)
        first | go_roundw | skip
        all_goals first
          | exact ⟨⟨i + 1, int_congrP (by omega), by omega, by rw [HMS.out, ← List.append_assoc, exC_snoc]; exact HO3.out, HB3.out⟩, by simp [intOf]; omega⟩
          | exact ⟨i + 1, int_congrP (by omega), by omega, by rw [HMS.out, ← List.append_assoc, exC_snoc]; exact HO3.out, HB3.out⟩
          | (simp [intOf]; omega)
      · obtain rfl : i = 5 := by omega
        have iI : ¬ (5 : Int) < 5 := by omega
        rcases hr.2 with ⟨_, e⟩ | ⟨gg, cp, cur2, rfl, r1, r2, r3, r4, r5, r6⟩
        · omega
        · have sl := slice_ext gg 0 (0 + 5) cp (by omega) r3 (by omega) (by omega) wr
          have hse : SlE wr (some ⟨gg, 0, none⟩) [] := by
            refine ⟨HB.out, .inr ⟨gg, 0, cur2, rfl, r2, fun j x l hj => ?_⟩⟩
            have hjl : j < ([] : List (Int × Int)).length := (List.getElem?_eq_some_iff.1 hj).1
            obtain ⟨e1, e2⟩ := exC_get ([] ++ moreE 5) j x l (by rw [List.getElem?_append_left hjl]; exact hj)
            have hkk := HK.out
            rw [← r6, List.getElem?_take, if_pos (by omega), Array.getElem?_toList] at e1 e2
            rw [Nat.zero_add]
            exact ⟨e1, e2⟩
          have HSE := hide hse
          have HBB := hide hB
          clear hr hse hB r1 r2 r3 r4 r5 r6
          go_wp2
          go_ret
          exact ⟨_, rfl, gg, ⟨cp, rfl⟩, HSE.out, HBB.out⟩
  · have hnews : ∀ j u, (exC xs)[j]? = some u → w.cell? ((⟨g0, 0, none⟩ : Addr).add j) = some u := fun j u hu => by
      rw [Addr.add_mid, Nat.zero_add]
      rw [← q6, List.getElem?_take] at hu
      split at hu
      · rw [Array.getElem?_toList] at hu
        exact (cell8 q2 j).trans hu
      · cases hu
    have HNW := hide hnews
    have hl2 : (exC xs).length = k * 2 := by rw [exC_len, hk]
    have h1c := exC_one xs
    clear h rest hb hk q1 q3 q4 q5 q6 hnews
    go_enter Try.func9, Try.ntmps9
    go_wp2_with (at_builtin; refine wpList_append_own_at _ rfl _ _ 22 rfl w.heap.size 52 i0 (.agg #[.int .i64 0, .int .i64 0]) 2 16 Try.underlying22 hi0 hz0 hz1 hz2 rfl (by decide) (.slice none 0 0) 0 [] rfl (World.ownsRow_nil _ _ _ _) ⟨g0, 0, none⟩ k cp0 (exC xs) rfl hl2 HNW.out h1c (by unfold maxLen; omega) (by omega) (Nat.le_refl _) ?_; intro v1 x1 ho1 hg1 hnn hat; clear hnn hat; rw [Nat.zero_add, List.nil_append] at ho1; have HO1 := hide ho1; have HG1 := hide hg1; clear ho1 hg1)
    have hst := REST.out x1 v1 HO1.out (bel_of_grownT (Below.refl _ w) (World.ownsRow_nil w w.heap.size 52 2) HG1.out)
    have HST := hide hst
    clear hst
    go_wp2
    go_loopw [3, 4] (fun lv iv wr => ∃ i : Nat, iv = .int .i64 (i : Int) ∧ i ≤ 5 ∧ wr.ownsRow w.heap.size 52 2 lv (k + i) (exC (xs ++ moreE i)) ∧ Below w.heap.size w wr) (fun _ iv _ => (5 - (intOf iv).toNat))
    case atStart => exact ⟨0, rfl, Nat.zero_le _, HST.out.1, HST.out.2⟩
    case round =>
      obtain ⟨i, rfl, hi5, hr, hB⟩ := hrel
      by_cases hlt : i < 5
      · have iI : (i : Int) < 5 := by omega
        have hw : IntKind.i64.wrap (1 + (i : Int)) = 1 + (i : Int) := by rw [IntKind.wrap_i64]; omega
        have hms := moreE_succ i
        have hA1 : Below wr.heap.size wr (wr.alloc (.cells #[.int .i64 64, .int .i64 (1 + (i : Int))] 52)) := (Below.refl _ wr).alloc (Nat.le_refl _) _
        have HO2 := hide (own_below hr hA1)
        have HB2 := hide (bseq hB hA1)
        have hsz2 : w.heap.size ≤ (wr.alloc (.cells #[.int .i64 64, .int .i64 (1 + (i : Int))] 52)).heap.size := HB2.out.size
        have HMS := hide hms
        clear hr hB hA1 hms
        go_wp2_with (at_builtin; refine wpList_append_own_at _ rfl _ _ 22 rfl w.heap.size 52 i0 (.agg #[.int .i64 0, .int .i64 0]) 2 16 Try.underlying22 hi0 hz0 hz1 hz2 rfl (by decide) u3 (k + i) (exC (xs ++ moreE i)) rfl HO2.out ⟨wr.heap.size, 0, none⟩ 1 1 [.int .i64 64, .int .i64 (1 + (i : Int))] rfl rfl (cell_twoU wr _ _ _) (by simp [Value.oneCell']) (by unfold maxLen; omega) (by omega) hsz2 ?_; intro v3 x3 ho3 hg3 hnn hat; clear hnn hat; have HO3 := hide ho3; have HB3 := hide (bel_of_grownT HB2.out HO2.out hg3); clear ho3 hg3)
        first | go_roundw | skip
        all_goals first
          | exact ⟨⟨i + 1, int_congrP (by omega), by omega, by rw [HMS.out, ← List.append_assoc, exC_snoc]; exact HO3.out, HB3.out⟩, by simp [intOf]; omega⟩
          | exact ⟨i + 1, int_congrP (by omega), by omega, by rw [HMS.out, ← List.append_assoc, exC_snoc]; exact HO3.out, HB3.out⟩
          | (simp [intOf]; omega)
      · obtain rfl : i = 5 := by omega
        have iI : ¬ (5 : Int) < 5 := by omega
        rcases hr.2 with ⟨_, e⟩ | ⟨gg, cp, cur2, rfl, r1, r2, r3, r4, r5, r6⟩
        · omega
        · have sl := slice_ext gg k (k + 5) cp (by omega) r3 (by omega) (by omega) wr
          have hse : SlE wr (some ⟨gg, 0, none⟩) xs := by
            refine ⟨HB.out, .inr ⟨gg, 0, cur2, rfl, r2, fun j x l hj => ?_⟩⟩
            have hjl : j < (xs : List (Int × Int)).length := (List.getElem?_eq_some_iff.1 hj).1
            obtain ⟨e1, e2⟩ := exC_get (xs ++ moreE 5) j x l (by rw [List.getElem?_append_left hjl]; exact hj)
            have hkk := HK.out
            rw [← r6, List.getElem?_take, if_pos (by omega), Array.getElem?_toList] at e1 e2
            rw [Nat.zero_add]
            exact ⟨e1, e2⟩
          have HSE := hide hse
          have HBB := hide hB
          clear hr hse hB r1 r2 r3 r4 r5 r6
          go_wp2
          go_ret
          exact ⟨_, rfl, gg, ⟨cp, rfl⟩, HSE.out, HBB.out⟩
end Go.Proofs.Ytgfgihpkbbjkfaa
namespace Go.Proofs.Ytgfgihpkbbjkfaa
open Go.RowKit Go.Shelf
set_option linter.unusedVariables false
set_option maxRecDepth 100000

theorem tn_ops {a b t : Nat} (h1 : a ≤ b + 20000000) (h2 : b ≤ 1300000000 + 20000000 * t) : a ≤ 1300000000 + 20000000 * (t + 1) := by
  rw [Nat.mul_succ, ← Nat.add_assoc]
  exact Nat.le_trans h1 (Nat.add_le_add_right h2 _)
set_option maxHeartbeats 8000000 in
theorem ulogBrings_walk (w : World) (ea a1 a2 : Option Addr) (m c m1 c1 m2 c2 : Nat) (lg : Bool) (xs : List (Int × Int)) (chs : List ChR) (ars : List (Int × List Int)) (h : SlX w ea xs) (hm : xs.length = m) (hc : SlC w a1 chs) (hcl : chs.length = m1) (hm1 : m1 ≤ 1048576) (ha : SlA w a2 ars) (hal : ars.length = m2) :
    Calls Try.prog 3 #[.agg #[.slice ea m c, .slice a1 m1 c1, .slice a2 m2 c2, .bool lg]] w fun e w' => e = .returned (.bool true) ∧ Below w.heap.size w w' := by
  have hA : Below w.heap.size w (w.alloc (.cells #[.slice ea m c, .slice a1 m1 c1, .slice a2 m2 c2, .bool lg] 26)) := (Below.refl _ w).alloc (Nat.le_refl _) _
  have hX := heap_alloc_new w (.cells #[.slice ea m c, .slice a1 m1 c1, .slice a2 m2 c2, .bool lg] 26)
  have HE := hide h
  have HM := hide hm
  have HSC := hide hc
  have HCL := hide (And.intro hcl hm1)
  have HSA := hide ha
  have HAL := hide hal
  clear h hm hc hcl hm1 ha hal
  go_enter Try.func3, Try.ntmps3
  go_upto_region 1 with (fail)
  generalize hXX : w.alloc (.cells #[.slice ea m c, .slice a1 m1 c1, .slice a2 m2 c2, .bool lg] 26) = X at *
  have hsX : w.heap.size < X.heap.size := lt_of_heap hX
  have HA := hide hA
  have HX := hide hX
  clear hA hX hXX
  go_upto_region 6 with (first
    | (go_at_call 4; refine (uawake_any _).mono ?_; rintro e W0 ⟨rfl, hb⟩; have HB0 := hide hb; have KM := hide (umade_any 384 W0 (by omega) (by omega) (by omega)); clear hb)
    | (go_at_call 5; refine (KM.out).mono ?_; rintro e W1 ⟨b, L, gl, rfl, hd, hN, hf, hl, hB⟩; obtain ⟨σ, hlg, hn, ho, hby, hpa, hN0⟩ := lg_madeB hd hN hf hl hB; have HL := hide hlg; have HP := hide (And.intro hn (And.intro ho (And.intro hby (And.intro hpa hN0)))); have HB := hide hB; clear hd hN hf hl hlg hn ho hby hpa hN0 hB))
  clear KM
  have hXW := bseq HB0.out HB.out
  have hr4 := (hXW.block _ hsX).trans HX.out
  obtain ⟨q0, q1, q2, q3⟩ := st_cells hr4
  have HXW := hide (bseq HA.out hXW)
  have hw0 : w.heap.size ≤ W0.heap.size := by
    have e1 := HA.out.size
    have e2 := HB0.out.size
    omega
  have HW0 := hide hw0
  have KB := hide (ubrought_any (ea := ea) (a1 := a1) (a2 := a2) (c := c) (m1 := m1) (c1 := c1) (m2 := m2) (c2 := c2) (lg := lg) (HE.out.below HXW.out) HM.out)
  have HR4 := hide hr4
  clear hXW hr4 hw0
  go_upto_region 8 with (first
    | (go_at_call 6; refine (KB.out).mono ?_; rintro e W2 ⟨v, rfl, k, hkm, hk5, hrow, hb2⟩; have HROW := hide hrow; have HB2 := hide hb2; have HL2 := hide (HL.out.below hb2); have kim := pimg_any HL2.out.dv.dev HL2.out.dv.ok; rw [HP.out.1, HP.out.2.2.1] at kim; have KIM := hide kim; clear hrow hb2 kim)
    | (go_at_call 7; refine (KIM.out).mono ?_; rintro e W3 ⟨rfl, hO3, hb3⟩; have HO3 := hide hO3; have HB3 := hide hb3; have HL3 := hide (HL2.out.below hb3); clear hO3 hb3))
  clear KB KIM q0 q1 q2 q3
  obtain ⟨R, hR⟩ : ∃ R, W2.heap.size = R := ⟨_, rfl⟩
  rw [hR] at HO3 ⊢
  clear hR
  have HB13 := hide (bseq HB2.out HB3.out)
  obtain ⟨va, vcp, hvs⟩ := own_slice HROW.out
  subst hvs
  have hkx : k ≤ xs.length := by rw [HM.out]; exact hkm
  have hbr : ∀ x ∈ brL xs k, (-9223372036854775808 ≤ x.1 ∧ x.1 ≤ 9223372036854775807) ∧ (-9223372036854775808 ≤ x.2 ∧ x.2 ≤ 9223372036854775807) := fun x hx => by
    have := brL_in x hx
    exact ⟨by omega, by omega⟩
  have hrow3 := own_below HROW.out HB3.out
  have hse3 : SlE W3 va (brL xs k) := by
    obtain ⟨a9, c9, hq, hs⟩ := sle_of_row (cap := 0) hrow3 (brL_len hkx) hbr
    cases hq
    exact hs
  have KE := hide (uext_any hrow3 (brL_len hkx) (by omega) hbr)
  have HSE3 := hide hse3
  have HKX := hide hkx
  have hbl := brL_len hkx
  have HBL := hide hbl
  clear hrow3 hse3 HROW hbr hbl
  go_upto_region 10 with (first
    | (go_at_call 9; refine (KE.out).mono ?_; rintro e W4 ⟨v4, rfl, g4, cp4, rfl, hse4, hb4⟩; have KW := hide (br_write (cap := cp4) (HL3.out.below hb4) HP.out.1 HP.out.2.1 HP.out.2.2.1 HP.out.2.2.2.1 HP.out.2.2.2.2 HKX.out hk5 hse4); have HB4 := hide hb4; clear hse4 hb4)
    | (go_at_call 8; refine (KW.out).mono ?_; rintro e W5 ⟨rfl, L5, s5, hl5, hn5, ho5, hnum5, hrec5, hsure5, hout5, hN5, hkp5⟩; have HL5 := hide hl5; have HP5 := hide (And.intro hn5 (And.intro ho5 (And.intro hsure5 hN5))); have HBRN := hide (show Brn s5.bytes (recL (imgZ 8) (brL xs k)) from ⟨by rw [hl5.dv.ok.len, hn5], hout5, recL_each, by rw [recL_len, HBL.out]; exact hnum5, hrec5⟩); have HKP5 := hide hkp5; clear hl5 hn5 ho5 hnum5 hrec5 hsure5 hout5 hN5 hkp5))
  clear KE KW
  have HRK := hide (show (recL (imgZ 8) (brL xs k)).length = k by rw [recL_len]; exact HBL.out)
  have HCOV := hide (recL_cov (xs := xs) (k := k))
  have hO5 : OwnB W5 R (imgZ 8) := HKP5.out.keep R _ _ _ (HO3.out.below HB4.out HO3.out.lt) byte_nd
  have hse5 : SlE W5 va (brL xs k) := (HSE3.out.below HB4.out).kp HKP5.out
  have hb5 : Below w.heap.size w W5 := bel_kp (bseq (bseq HXW.out HB13.out) HB4.out) HW0.out HKP5.out.below
  have hr5 := HKP5.out.keep _ _ _ _ (row_keepU HR4.out (bseq HB13.out HB4.out)) story_nd
  have hyl : ∀ r ∈ recL (imgZ 8) (brL xs k), r.2.length ≤ 4194304 := fun r hr => by have := (HBRN.out.each r hr).1.2.1; omega
  have hrb : ∀ r ∈ recL (imgZ 8) (brL xs k), ∀ y ∈ r.2, y < 256 := fun r hr => (HBRN.out.each r hr).1.2.2
  have KOL := hide (fun W (hB : Below W5.heap.size W5 W) => uolds_any (c := vcp) (ic := 1024) (hO5.below hB hO5.lt) imgZ_len (by omega) imgZ_lt (hse5.below hB) HBL.out (by omega) (fun x hx => by have := brL_in x hx; omega))
  generalize hrl : recL (imgZ 8) (brL xs k) = rl at *
  generalize hbx : brL xs k = bx at *
  clear hrl hbx
  have KR := hide (lrecords_ok rl HL5.out.log HL5.out.dv (by omega) (by omega) (by rw [HP5.out.1]; omega) HBRN.out.num (by rw [HP5.out.1]; exact HBRN.out.recs) (by rw [HRK.out]; omega))
  have KSM := hide (fun W v u (h1 : RowR W v rl) (h2 : RowR W u rl) => usame_yes h1 h2 (by rw [HRK.out]; omega) hyl)
  have HRB := hide hrb
  have HO5 := hide hO5
  have HSE5 := hide hse5
  have HB5 := hide hb5
  have HR5 := hide hr5
  clear hO5 hse5 hb5 hr5 hyl hrb HSE3 HO3 HL3 HL2 HL
  go_upto_region 11 with (go_at_call 10; refine (KR.out).mono ?_; rintro e W6 ⟨v6, Rs, rfl, hrow6, hb6⟩; have HRR := hide (hrow6.rowR HRB.out); obtain ⟨ra, rc, rfl, _⟩ := hrow6.shape; have HB6 := hide hb6; clear hrow6 hb6)
  clear KR
  have HARL := hide (fun x hx => (HSA.out.1 x hx).2)
  go_upto_region 13 with (first
    | (go_at_call 12; refine (KOL.out _ HB6.out).mono ?_; rintro e W7 ⟨v7, rfl, hr7, hb7⟩; have HR7 := hide hr7; have HB7 := hide hb7; clear hr7 hb7)
    | (go_at_call 11; refine (KSM.out _ _ _ (HRR.out.below HB7.out) HR7.out).mono ?_; rintro e W8 ⟨rfl, hb8⟩; have HB58 := hide (bseq (bseq HB6.out HB7.out) hb8); obtain ⟨q0, q1, q2, q3⟩ := st_cells (row_keepU HR5.out HB58.out); have KAR := hide (uarms_any (ea := ea) (a1 := a1) (a2 := a2) (m := m) (c := c) (m1 := m1) (c1 := c1) (c2 := c2) (lg := lg) (HSA.out.below (bseq HB5.out HB58.out)) HAL.out); clear hb8)
    | (go_at_call 14; refine (KAR.out).mono ?_; rintro e W9 ⟨v9, rfl, ka, hka, hk6, hrq, hb9⟩; obtain ⟨aa, ca, rfl, kar⟩ := br_arm (HL5.out.below HB58.out) HP5.out.1 HP5.out.2.2.2 hrq hb9 (by rw [HAL.out]; exact hka) hk6 HARL.out; have KA := hide kar; have HB59 := hide (bseq HB58.out hb9); clear hrq hb9 kar)
    | (go_at_call 13; refine (KA.out).mono ?_; rintro e W10 ⟨rfl, L10, ar, hbw10, har6, hkp10⟩; have HB10 := hide (bel_kp (bseq HB5.out HB59.out) HW0.out hkp10.below); obtain ⟨z0, z1, z2, z3⟩ := st_cells (hkp10.keep _ _ _ _ (row_keepU HR5.out HB59.out) story_nd); have HO10 := hide (show OwnB W10 R (imgZ 8) from hkp10.keep R _ _ _ (HO5.out.below HB59.out HO5.out.lt) byte_nd); have KCH := hide (uchanged_any (lc := vcp) (ea := ea) (a1 := a1) (a2 := a2) (m := m) (c := c) (c1 := c1) (m2 := m2) (c2 := c2) (lg := lg) hbw10 (dirty_armed (rl := rl) HL5.out.dv.ok HP5.out.1 HP5.out.2.2.1) ((HSE5.out.below HB59.out).kp hkp10) HBL.out hk5 HCOV.out (fun W hW => HSC.out.below (bel_kp HB10.out HW0.out hW.below)) HCL.out.1 HCL.out.2 (by have := HP5.out.2.1; show s5.ops + 2000000000 ≤ 1400000000000; omega)); have HAR6 := hide har6; clear hbw10 har6 hkp10)
    | (go_at_call 15; refine (KCH.out).mono ?_; rintro e W11 ⟨rfl, L11, s11, hbw11, hd11, ha11, ho11, hkp11⟩; have HT0 := hide (show Tn W0.heap.size W11 gl b R s5.bytes rl W11 0 L11 s11 from ⟨hbw11, Dc.of HBRN.out hd11, by have e1 := HAR6.out; have e2 : s11.arms.length ≤ ar.length := ha11; omega, by have e1 := HP5.out.2.1; have e2 := HCL.out.2; have e3 : s11.ops ≤ s5.ops + 1200 * m1 := ho11; omega, hkp11.keep R _ _ _ HO10.out byte_nd, Kp8.of_below (Below.refl _ _) hbw11.big⟩); have HB11 := hide (bel_kp HB10.out HW0.out hkp11.below); clear hbw11 hd11 ha11 ho11 hkp11))
  have HK5 := hide hk5
  clear KOL KSM KAR KA KCH q0 q1 q2 q3 z0 z1 z2 z3 HSE5 HR5 HRR HR7 HB58 HB59 HAR6 HO10 HSA HSC HARL HRB HL5 HP5 HKP5 HO5
  generalize s5.bytes = C at *
  go_wp2
  try go_frame
  go_loopw [10] (fun iv wr => ∃ (t : Nat) (Li : Lay) (si : St), iv = .int .i64 (t : Int) ∧ Tn W0.heap.size W11 gl b R C rl wr t Li si) (fun iv _ => (10 - (intOf iv).toNat))
  case atStart => exact ⟨0, L11, s11, rfl, HT0.out⟩
  case round =>
    obtain ⟨t, Li, si, rfl, hT⟩ := hrel
    have ht6 : t ≤ 6 := by have := hT.arms; omega
    have tI : (t : Int) < 10 := by omega
    have ko := poff_any hT.bw.dev
    have HT := hide hT
    clear hT
    by_cases hoff : si.off = true
    · rw [hoff] at ko
      have KO := hide ko
      have KWK := hide (bw_wake HT.out.bw hoff)
      clear ko hoff
      go_upto_region 18 with (first
        | (go_at_call 16; refine (KO.out).mono ?_; rintro e w' ⟨rfl, hw⟩; obtain rfl := hw.symm)
        | (go_at_call 17; refine (KWK.out).mono ?_; rintro e WX ⟨rfl, hbX, hkX⟩; have HXX := hide (And.intro hbX hkX); clear hbX hkX))
      clear KO KWK
      obtain ⟨sX, hTX, hoX⟩ : ∃ sX : St, Tn W0.heap.size W11 gl b R C rl WX t Li sX ∧ sX.off = false := ⟨_, HT.out.woke HXX.out.1 HXX.out.2, rfl⟩
      have hopX := hTX.ops
      have harX := hTX.arms
      have HTX := hide hTX
      have KRB := hide (br_roll hTX.bw HBRN.out hTX.dc hoX (by omega) HRK.out HK5.out)
      clear hTX hoX
      go_upto_region 19 with (go_at_call 18; refine (KRB.out).mono ?_; rintro e W9 ⟨c9, n9, rfl, L9, s9, hb9, hk9, ho9, hr9⟩; have H9 := hide hr9; have HB9 := hide hb9; have HK9 := hide hk9; have HO9 := hide ho9; clear hb9 hk9 ho9 hr9)
      clear KRB
      have HB12 := hide (bel_kp (bel_kp HB11.out HW0.out HTX.out.kp.below) HW0.out HK9.out.below)
      have HON := hide (show OwnB W9 R (imgZ 8) from HK9.out.keep R _ _ _ HTX.out.own byte_nd)
      rcases H9.out with ⟨rfl, hn9, hof9, hcl9⟩ | ⟨rfl, hd9, ha9⟩
      · have KST := hide (ustill_any HB9.out hcl9 hof9 HON.out)
        clear hcl9 hof9 H9
        rcases hn9 with rfl | ⟨rfl, hk1⟩
        · go_wp2_with (go_at_call 19; refine (KST.out).mono ?_; rintro e W13 ⟨rfl, hb13⟩; have HB13' := hide hb13; clear hb13)
          go_ret
          exact ⟨rfl, bel_kp HB12.out HW0.out HB13'.out⟩
        · have kne : ¬ (k : Int) = 0 := by omega
          have kne2 : ((k : Int) == 0) = false := by simp; omega
          have kne3 : decide ((k : Int) = 0) = false := decide_eq_false kne
          go_wp2_with (go_at_call 19; refine (KST.out).mono ?_; rintro e W13 ⟨rfl, hb13⟩; have HB13' := hide hb13; clear hb13)
          go_ret
          exact ⟨rfl, bel_kp HB12.out HW0.out HB13'.out⟩
      · have HD9 := hide hd9
        clear hd9 H9
        go_wp2_with (fail)
        go_roundw
        case rel => exact ⟨t + 1, L9, s9, int_congrP (by omega), HB9.out, HD9.out, by omega, tn_ops HO9.out hopX, HON.out, HTX.out.kp.trans HK9.out⟩
        case measure => simp [intOf]; omega
    · have hof : si.off = false := by simpa using hoff
      rw [hof] at ko
      have KO := hide ko
      clear ko hoff
      go_upto_region 18 with (go_at_call 16; refine (KO.out).mono ?_; rintro e w' ⟨rfl, hw⟩; obtain rfl := hw.symm)
      clear KO
      obtain ⟨WX, hWX⟩ : ∃ WX, wr = WX := ⟨_, rfl⟩
      subst hWX
      obtain ⟨sX, hTX, hoX⟩ : ∃ sX : St, Tn W0.heap.size W11 gl b R C rl wr t Li sX ∧ sX.off = false := ⟨si, HT.out, hof⟩
      clear hof
      have hopX := hTX.ops
      have harX := hTX.arms
      have HTX := hide hTX
      have KRB := hide (br_roll hTX.bw HBRN.out hTX.dc hoX (by omega) HRK.out HK5.out)
      clear hTX hoX
      go_upto_region 19 with (go_at_call 18; refine (KRB.out).mono ?_; rintro e W9 ⟨c9, n9, rfl, L9, s9, hb9, hk9, ho9, hr9⟩; have H9 := hide hr9; have HB9 := hide hb9; have HK9 := hide hk9; have HO9 := hide ho9; clear hb9 hk9 ho9 hr9)
      clear KRB
      have HB12 := hide (bel_kp (bel_kp HB11.out HW0.out HTX.out.kp.below) HW0.out HK9.out.below)
      have HON := hide (show OwnB W9 R (imgZ 8) from HK9.out.keep R _ _ _ HTX.out.own byte_nd)
      rcases H9.out with ⟨rfl, hn9, hof9, hcl9⟩ | ⟨rfl, hd9, ha9⟩
      · have KST := hide (ustill_any HB9.out hcl9 hof9 HON.out)
        clear hcl9 hof9 H9
        rcases hn9 with rfl | ⟨rfl, hk1⟩
        · go_wp2_with (go_at_call 19; refine (KST.out).mono ?_; rintro e W13 ⟨rfl, hb13⟩; have HB13' := hide hb13; clear hb13)
          go_ret
          exact ⟨rfl, bel_kp HB12.out HW0.out HB13'.out⟩
        · have kne : ¬ (k : Int) = 0 := by omega
          have kne2 : ((k : Int) == 0) = false := by simp; omega
          have kne3 : decide ((k : Int) = 0) = false := decide_eq_false kne
          go_wp2_with (go_at_call 19; refine (KST.out).mono ?_; rintro e W13 ⟨rfl, hb13⟩; have HB13' := hide hb13; clear hb13)
          go_ret
          exact ⟨rfl, bel_kp HB12.out HW0.out HB13'.out⟩
      · have HD9 := hide hd9
        clear hd9 H9
        go_wp2_with (fail)
        go_roundw
        case rel => exact ⟨t + 1, L9, s9, int_congrP (by omega), HB9.out, HD9.out, by omega, tn_ops HO9.out hopX, HON.out, HTX.out.kp.trans HK9.out⟩
        case measure => simp [intOf]; omega
end Go.Proofs.Ytgfgihpkbbjkfaa
namespace Go.Proofs.Ytgfgihpkbbjkfaa.ulogBrings
open Go.ChangeShapes Go.WideShapes Go.ChangeAt Go.RowKit Go.Proofs.Ytgfgihpkbbjkfaa
set_option linter.unusedVariables false

set_option maxRecDepth 100000 in
theorem contract (H : Type) (enc : TypeId × Value → H) (W : World) (base : Nat) (args : Array Value) (ds gs : List (DataW H)) (before : List MemPlace)
    (hval : ∀ (j : Nat) t v, Try.f3.params[j]? = some t → args[j]? = some v → Value.okWide Try.prog W .any base t v)
    (hW : DataW.Whole enc Try.prog Try.f3.params.toList Rows.ulogBringsSpec.vars false W args.toList ds gs before) (hk : Rows.uptoSmall H (ds ++ gs) = true) :
    Calls Try.prog 3 args W fun e W' => ∃ v, e = .returned v ∧ Rows.ulogBringsSpec.post enc Try.prog Try.f3 false true false false W args v W' := by
  have hW' := hW
  obtain ⟨p, q, hA0, hV, rfl, hfz, hnd⟩ := hW
  have hA : DataW.TrodAll enc Try.prog W 0 (fun _ => true) true Try.f3.params.toList args.toList ds p := hA0
  rw [Try.params3] at hA hval
  obtain ⟨v0, vs0, d0, ds0, p0, q0, hargs, rfl, rfl, h0, r0⟩ := trodAll_cons hA
  obtain ⟨rfl, rfl, rfl⟩ := trodAll_nil r0
  obtain rfl : args = #[v0] := by cases args; simp_all
  obtain ⟨rfl, rfl⟩ := trodVars_none hV
  have hb := bulk_of hk
  simp only [List.append_nil, Rows.uptoBulkAll] at hb
  have k0 := h0
  have lt0 : ∀ x ∈ p0, x.block < W.heap.size := by obtain ⟨m, hm⟩ := k0; exact DataW.trod_lt m _ _ _ hm
  obtain ⟨ea0, aa0, ab0, m0, c0, ma0, ca0, mb0, cb0, lg0, xs0, chs0, ars0, rfl, hx0, hl0, hc0, hcl0, hcm0, ha0, hal0⟩ := open_storyW (hval 0 26 v0 rfl rfl) h0 (by omega)
  clear hA0
  refine (ulogBrings_walk W ea0 aa0 ab0 m0 c0 ma0 ca0 mb0 cb0 lg0 xs0 chs0 ars0 hx0 hl0 hc0 hcl0 hcm0 ha0 hal0).mono fun e W' ⟨he, bel⟩ => ?_
  subst he
  exact ⟨_, rfl, _, _, _, [], _, [], hW', trodAll_mk1 (shut_bool Try.underlying4 _), (trodAll_cons_mk (Below.trod laidOut (by kernel_rfl) (of_decide_eq_true (by kernel_rfl)) k0 bel lt0) trodAll_mk0), rfl, bel.frame _, fun h => by cases h⟩

set_option maxRecDepth 100000 in
theorem lifted (os : Os) (started : os.Started) (H : Type) (enc : TypeId × Value → H) (F : Stop.Interp) :
    ReturnsInHanded {} Try.checked os 3 .any ((Rows.OpenSpec.upto Rows.ulogBringsSpec).pre6 enc Try.prog Try.f3 Rows.ulogBringsUptoRow.domain false) (((Rows.OpenSpec.upto Rows.ulogBringsSpec).at F).post enc Try.prog Try.f3 false true false false) := by
  refine returnsInHanded_of_cond (C := Try.checked) (s := Rows.OpenSpec.upto Rows.ulogBringsSpec) (k := Rows.uptoSmall) rfl own started (by kernel_rfl) Try.func3
    (OpenSpec.witness (enc := enc) (C := Try.checked) (s := Rows.OpenSpec.upto Rows.ulogBringsSpec) (k := Rows.uptoSmall) rfl false ⟨#[], #[.agg #[.slice none 0 0, .slice none 0 0, .slice none 0 0, .bool false]], []⟩ 8 (by kernel_rfl) (by kernel_rfl) (by kernel_rfl)
      (x := ([.agg [.nil, .nil, .nil, .lit (.bool false)]], [], [])) (by kernel_rfl) rfl (by kernel_rfl)) ?_
  intro W base args ds gs before hval hW _ hk _
  exact contract H enc W base args ds gs before hval hW hk

theorem over : Rows.UlogBringsUptoSaid :=
  OpenClaim.holds_of_cond 3 Try.f3 rfl rfl rfl rfl rfl rfl rfl ⟨rfl, rfl, rfl, rfl, rfl⟩ rfl rfl rfl rfl rfl (by kernel_rfl) Try.func3 (by kernel_rfl)
    (of_decide_eq_true (by kernel_rfl)) (by unfold Func.isWrapper; first | (rw [if_pos (by decide +kernel)]; kernel_rfl) | (rw [if_neg (by decide +kernel)]; exact ⟨rfl, rfl⟩))
    (fun os started H enc _ F => lifted os started H enc F)

end Go.Proofs.Ytgfgihpkbbjkfaa.ulogBrings

namespace Go.Proofs.Ytgfgihpkbbjkfaa
/-- UlogBrings, as it is stated for what is of bounded bulk. -/
theorem ulogBrings_holds : Rows.UlogBringsUptoSaid := ulogBrings.over
#print axioms ulogBrings_holds
end Go.Proofs.Ytgfgihpkbbjkfaa
