/- Package pmem: bytes are written, word by word. -/
import Derived.Test.YtgfgihpkbbjkfaaPWrA
namespace Go.Proofs.Ytgfgihpkbbjkfaa
open Go.RowKit Go.Shelf
set_option linter.unusedVariables false
attribute [local go_sem] Oper.semAt_some

theorem results_boxP {P : Program} {fn : Func} {p : Tmp} {ty : TypeId} (h : fn.results = #[.cell p ty]) (tmps : Array Value) (w : World) (g : Nat) (t : TypeId) (v : Value)
    (hp : tmps.getD p undef = .pointer (some ⟨g, 0, none⟩)) (hg : Boxed w g t v) (h1 : ∀ w' : World, w'.cell? ⟨g, 0, none⟩ = some v → (loadVar ty ⟨g, 0, none⟩).run P w' = .ok v w') :
    (results fn tmps).run P w = .ok v w := by
  have hp' : tmps[p]?.getD undef = .pointer (some ⟨g, 0, none⟩) := by simpa using hp
  have e1 := h1 w hg.cell
  simp [results, h, hp', asAddr, e1]
theorem loadE {w : World} {g : Nat} {v : Value} (h : w.cell? ⟨g, 0, none⟩ = some v) : (loadVar 35 ⟨g, 0, none⟩).run Try.prog w = .ok v w := by
  simp [loadVar, Sem.run_bind, Try.isAgg35, h, go_sem]
/-- The types that a device's pasts have. -/
def HP (t : TypeId) : Prop := t = 121 ∨ t = 145 ∨ t = 69 ∨ t = 73 ∨ t = 89
theorem Gr.kp {X N : Nat → Prop} {B : Nat} {W W' : World} (h : Gr X W W') (hx : ∀ k o, W.heap[k]? = some o → X k → ¬ N k ∧ (k < B ∨ Held HP o)) : Kp HP N B W W' :=
  ⟨⟨h.1, h.2.1, h.2.2.1, h.size⟩, fun k o hk hc => (h.block (lt_of_heap hk) (fun hX => by
    obtain ⟨h1, h2⟩ := hx k o hk hX
    rcases hc with hc | ⟨h3, h4⟩
    · exact h1 hc
    · rcases h2 with h2 | h2
      · omega
      · exact h4 h2)).trans hk⟩
theorem Gr.sub {X : Nat → Prop} {B : Nat} {w W W' : World} {H : TypeId → Prop} (h : Gr X w W) (hs : Sub H B W W') (hB : w.heap.size ≤ B) : Gr X w W' :=
  ⟨hs.1.1.trans h.1, hs.1.2.1.trans h.2.1, hs.1.2.2.1.trans h.2.2.1, Nat.le_trans h.size hs.1.2.2.2, fun k hk hx => by
    have hlt : k < W.heap.size := Nat.lt_of_lt_of_le hk h.size
    have h1 := hs.2 k _ (Array.getElem?_eq_getElem hlt) (.inl (by omega))
    rw [h1, ← Array.getElem?_eq_getElem hlt]
    exact h.block hk hx⟩
/-- A part of a device that may lie among blocks that were laid since is one of a past. -/
theorem foot_new {W : World} {b : Nat} {L : Lay} {σ : St} (h : DevL W b L σ) {k : Nat} (hk : Foot b L σ k) : k = b ∨ k = L.sb ∨ k = L.ob ∨ k = L.fb ∨ L.av.ownBlock = some k ∨ L.KB k ∨ ∃ o, W.heap[k]? = some o ∧ Held HP o := by
  rcases hk with h1 | h1 | h1 | h1 | ⟨i, hi, h1 | h1⟩ | h1 | h1
  · exact .inl h1
  · exact .inr (.inl h1)
  · exact .inr (.inr (.inl h1))
  · exact .inr (.inr (.inr (.inl h1)))
  · subst h1
    exact .inr (.inr (.inr (.inr (.inr (.inr ⟨_, (h.pasts i hi).1, .inl ⟨_, _, _, rfl, .inl rfl⟩⟩)))))
  · obtain ⟨c, hc⟩ := (h.pasts i hi).row h1
    exact .inr (.inr (.inr (.inr (.inr (.inr ⟨_, hc, .inl ⟨_, _, _, rfl, .inr (.inl rfl)⟩⟩)))))
  · exact .inr (.inr (.inr (.inr (.inl h1))))
  · exact .inr (.inr (.inr (.inr (.inr (.inl h1)))))
theorem foot_held {W : World} {b : Nat} {L : Lay} {σ : St} (h : DevL W b L σ) {k : Nat} (hk : Foot b L σ k) : L.KB k ∨ ∃ o, W.heap[k]? = some o ∧ Held HP o := by
  rcases hk with rfl | rfl | rfl | rfl | ⟨i, hi, h1 | h1⟩ | h1 | h1
  · exact .inr ⟨_, h.dev, .inl ⟨_, _, _, rfl, .inr (.inr (.inl rfl))⟩⟩
  · exact .inr ⟨_, h.seen, .inl ⟨_, _, _, rfl, .inr (.inr (.inr (.inl rfl)))⟩⟩
  · obtain ⟨es, q, h1⟩ := h.old.block
    exact .inr ⟨_, h1, .inr ⟨_, _, rfl⟩⟩
  · obtain ⟨es, q, h1⟩ := h.flm.block
    exact .inr ⟨_, h1, .inr ⟨_, _, rfl⟩⟩
  · subst h1
    exact .inr ⟨_, (h.pasts i hi).1, .inl ⟨_, _, _, rfl, .inl rfl⟩⟩
  · obtain ⟨c, hc⟩ := (h.pasts i hi).row h1
    exact .inr ⟨_, hc, .inl ⟨_, _, _, rfl, .inr (.inl rfl)⟩⟩
  · obtain ⟨c, hc⟩ := h.av_row h1
    exact .inr ⟨_, hc, .inl ⟨_, _, _, rfl, .inr (.inr (.inr (.inr rfl)))⟩⟩
  · exact .inl h1
/-- A device is the loop's own, also if it was laid in the loop; but for what arms keep. -/
theorem dev_sub {W W' : World} {b B : Nat} {L : Lay} {σ : St} (h : DevL W b L σ) (hkb : ∀ k, L.KB k → k < B) (hs : Sub HP B W W') : DevL W' b L σ := h.keep fun k hk => by
  have hlt := h.foot_is hk
  rw [Array.getElem?_eq_getElem hlt]
  refine hs.2 k _ (Array.getElem?_eq_getElem hlt) ?_
  rcases foot_held h hk with h1 | ⟨o, h1, h2⟩
  · exact .inl (hkb k h1)
  · rw [Array.getElem?_eq_getElem hlt] at h1
    cases h1
    exact .inr h2
/-- The parts that were there when the loop began. -/
structure Old (w : World) (b : Nat) (L : Lay) : Prop where
  b : b < w.heap.size
  sb : L.sb < w.heap.size
  ob : L.ob < w.heap.size
  fb : L.fb < w.heap.size
  av : ∀ k, L.av.ownBlock = some k → k < w.heap.size
  kb : ∀ k, L.KB k → k < w.heap.size
theorem DevL.old_ {w : World} {b : Nat} {L : Lay} {σ : St} (h : DevL w b L σ) : Old w b L :=
  ⟨h.lt, h.foot_is (.inr (.inl rfl)), h.foot_is (.inr (.inr (.inl rfl))), h.foot_is (.inr (.inr (.inr (.inl rfl)))), fun k hk => h.foot_is (.inr (.inr (.inr (.inr (.inr (.inl hk)))))), fun k hk => h.foot_is (.inr (.inr (.inr (.inr (.inr (.inr hk))))))⟩
theorem Old.same {w : World} {b : Nat} {L L' : Lay} (h : Old w b L) (hs : SameL L L') : Old w b L' := by
  obtain ⟨h1, h2, h3, h4, h5⟩ := hs
  exact ⟨h.b, by rw [h1]; exact h.sb, by rw [h2]; exact h.ob, by rw [h3]; exact h.fb, by rw [h4]; exact h.av, by rw [h5]; exact h.kb⟩
theorem foot_cases {w W : World} {b : Nat} {L : Lay} {σ : St} (h : DevL W b L σ) (ho : Old w b L) {k : Nat} (hk : Foot b L σ k) : k < w.heap.size ∨ ∃ o, W.heap[k]? = some o ∧ Held HP o := by
  rcases foot_new h hk with h1 | h1 | h1 | h1 | h1 | h1 | h1
  · rw [h1]; exact .inl ho.b
  · rw [h1]; exact .inl ho.sb
  · rw [h1]; exact .inl ho.ob
  · rw [h1]; exact .inl ho.fb
  · exact .inl (ho.av k h1)
  · exact .inl (ho.kb k h1)
  · exact .inr h1
theorem stab_dev {β : Type} {w : World} {b B : Nat} {L : Lay} {σ : β → St} (ho : Old w b L) (hB : w.heap.size ≤ B) : Stab HP B (fun s W => DevL W b L (σ s)) := fun s W W' hJ hs => hJ.keep fun k hk => by
  have hlt := hJ.foot_is hk
  have h1 : W'.heap[k]? = some (W.heap[k]'hlt) := by
    refine hs.2 k _ (Array.getElem?_eq_getElem hlt) ?_
    rcases foot_cases hJ ho hk with h2 | ⟨o, h2, h3⟩
    · exact .inl (by omega)
    · rw [Array.getElem?_eq_getElem hlt] at h2
      cases h2
      exact .inr h3
  rw [h1, Array.getElem?_eq_getElem hlt]
theorem stab_sl {β : Type} {w : World} {B : Nat} (a : Option Addr) (bs : List Nat) (hB : w.heap.size ≤ B) (ha : ∀ ad, a = some ad → ad.block < w.heap.size) : Stab HP B (fun (_ : β) W => Sl W a bs) := fun s W W' hJ hs => by
  rcases hJ with h | ⟨b, off, h1, h2, h3⟩
  · exact .inl h
  · refine .inr ⟨b, off, h1, Nat.lt_of_lt_of_le h2 hs.1.2.2.2, fun i x hx => ⟨?_, (h3 i x hx).2⟩⟩
    have hb := ha _ h1
    have h4 : W'.heap[b]? = W.heap[b]? := by
      rw [Array.getElem?_eq_getElem h2]
      exact hs.2 b _ (Array.getElem?_eq_getElem h2) (.inl (by simp at hb; omega))
    exact (World.cell?_of_block h4).trans (h3 i x hx).1
theorem stab_gr {β : Type} {X : Nat → Prop} {w : World} {B : Nat} (hB : w.heap.size ≤ B) : Stab HP B (fun (_ : β) W => Gr X w W) := fun s W W' hJ hs => hJ.sub hs hB

def writeDo (bs : List Nat) (at_ : Nat) (σ : St) (nos : List Nat) : St := nos.foldl (wordDo bs at_) σ
/-- What stays as it is while words are written. -/
structure Like (σ σ' : St) (k : Nat) : Prop where
  ok : σ'.Ok
  n : σ'.n = σ.n
  ops : σ'.ops = σ.ops + k
  arms : σ'.arms = σ.arms
  off : σ'.off = σ.off
theorem word_part {bs : List Nat} {at_ no : Nat} (hbs : ∀ x ∈ bs, x < 256) {σ : St} (hok : σ.Ok) (hi : no / 8 < σ.n) : (splice (σ.line (no / 8)) (max at_ (no * 8) % 64) ((bs.drop (max at_ (no * 8) - at_)).take (8 - max at_ (no * 8) % 8))).length = 64 ∧
    ∀ x ∈ splice (σ.line (no / 8)) (max at_ (no * 8) % 64) ((bs.drop (max at_ (no * 8) - at_)).take (8 - max at_ (no * 8) % 8)), x < 256 := by
  have hl := line_len hok hi
  constructor
  · rw [length_splice _ _ _ (by rw [hl, List.length_take]; omega), hl]
  · intro x hx
    rcases splice_mem hx with h | h
    · exact hok.byte x (line_mem h)
    · exact hbs x (List.mem_of_mem_drop (List.mem_of_mem_take h))
theorem write_like {bs : List Nat} {at_ : Nat} (hbs : ∀ x ∈ bs, x < 256) : ∀ (nos : List Nat) (σ : St), σ.Ok → (∀ no ∈ nos, no / 8 < σ.n) → σ.ops + nos.length ≤ 1400000000000 → Like σ (writeDo bs at_ σ nos) nos.length
  | [], σ, hok, _, _ => ⟨hok, rfl, rfl, rfl, rfl⟩
  | no :: nos, σ, hok, hn, hb => by
    rw [List.length_cons] at hb
    have hi := hn no (by simp)
    obtain ⟨h1, h2⟩ := word_part (at_ := at_) hbs hok hi
    have hok' : (wordDo bs at_ σ no).Ok := put_ok hok hi h1 h2 (by omega)
    have ih := write_like (at_ := at_) hbs nos (wordDo bs at_ σ no) hok' (fun x hx => hn x (by simp [hx])) (by show σ.ops + 1 + nos.length ≤ _; omega)
    exact ⟨ih.ok, ih.n, by rw [List.length_cons]; have h := ih.ops; have h2 : (wordDo bs at_ σ no).ops = σ.ops + 1 := rfl; show (writeDo bs at_ (wordDo bs at_ σ no) nos).ops = _; rw [h, h2]; omega, ih.arms, ih.off⟩
theorem writeDo_snoc (bs : List Nat) (at_ : Nat) (σ : St) (nos : List Nat) (no : Nat) : writeDo bs at_ σ (nos ++ [no]) = wordDo bs at_ (writeDo bs at_ σ nos) no := by simp [writeDo, List.foldl_append]
/-- The words of a range of a device. -/
def wordsOf (at_ n : Nat) : List Nat := (unitsV 8 (at_ : Int) (n : Int)).map Int.toNat
theorem wordsOf_eq (at_ n : Nat) (h : at_ + n ≤ 4194304) : wordsOf at_ n = if n = 0 then [] else (List.range ((at_ + n - 1) / 8 - at_ / 8 + 1)).map (at_ / 8 + ·) := by
  unfold wordsOf unitsV
  by_cases h0 : n = 0
  · rw [if_pos (by omega), if_pos h0]; rfl
  · rw [if_neg (by omega), if_neg h0]
    unfold upto
    rw [List.map_map]
    have e1 : (((at_ : Int) + n - 1) / 8 - (at_ : Int) / 8 + 1).toNat = (at_ + n - 1) / 8 - at_ / 8 + 1 := by omega
    rw [e1]
    refine List.map_congr_left fun i _ => ?_
    simp only [Function.comp]
    omega
theorem wordsOf_lt {at_ n m : Nat} (h : at_ + n ≤ 64 * m) (hm : m ≤ 65536) : ∀ no ∈ wordsOf at_ n, no / 8 < m := by
  intro no hno
  rw [wordsOf_eq at_ n (by omega)] at hno
  split at hno
  · cases hno
  · obtain ⟨i, hi, rfl⟩ := List.mem_map.1 hno
    have := List.mem_range.1 hi
    omega
theorem wordsOf_len {at_ n : Nat} (h : at_ + n ≤ 4194304) : (wordsOf at_ n).length ≤ 524289 := by
  rw [wordsOf_eq at_ n h]
  split
  · simp
  · simp; omega
/-- The word that is told. -/
theorem word_told {at_ n : Nat} (h : at_ + n ≤ 4194304) {pre : List Int} {x : Int} (hp : pre ++ [x] <+: unitsV 8 (at_ : Int) (n : Int)) : ∃ no : Nat, x = (no : Int) ∧ no = at_ / 8 + pre.length ∧ no ≤ (at_ + n - 1) / 8 ∧ 1 ≤ n ∧ no ∈ wordsOf at_ n ∧ pre.length < (wordsOf at_ n).length := by
  have hmem : x ∈ unitsV 8 (at_ : Int) (n : Int) := hp.subset (by simp)
  have hlen := hp.length_le
  unfold unitsV at hp hmem hlen
  by_cases h0 : n = 0
  · rw [if_pos (by omega)] at hmem; cases hmem
  · rw [if_neg (by omega)] at hp hlen
    obtain ⟨h1, h2⟩ := prefix_upto hp
    refine ⟨at_ / 8 + pre.length, by omega, rfl, by omega, by omega, ?_, ?_⟩
    · rw [wordsOf_eq at_ n h, if_neg h0]
      exact List.mem_map.2 ⟨pre.length, List.mem_range.2 (by omega), rfl⟩
    · rw [wordsOf_eq at_ n h, if_neg h0]
      simp
      omega
theorem foot_obj {W : World} {b : Nat} {L : Lay} {σ : St} (h : DevL W b L σ) {k : Nat} (hk : Foot b L σ k) : (∃ c t f, W.heap[k]? = some (.cells c t f)) ∨ ∃ es q, W.heap[k]? = some (.map es q) := by
  rcases hk with rfl | rfl | rfl | rfl | ⟨i, hi, rfl | h1⟩ | h1 | h1
  · exact .inl ⟨_, _, _, h.dev⟩
  · exact .inl ⟨_, _, _, h.seen⟩
  · exact .inr h.old.block
  · exact .inr h.flm.block
  · exact .inl ⟨_, _, _, (h.pasts i hi).1⟩
  · obtain ⟨c, hc⟩ := (h.pasts i hi).row h1
    exact .inl ⟨_, _, _, hc⟩
  · obtain ⟨c, hc⟩ := h.av_row h1
    exact .inl ⟨_, _, _, hc⟩
  · obtain ⟨c, hc⟩ := h.kbt k h1
    exact .inl ⟨_, _, _, hc⟩
theorem box_foot {w W : World} {b g : Nat} {L : Lay} {σ : St} {t : TypeId} {v : Value} (h : DevL W b L σ) (ho : Old w b L) (hb : Boxed W g t v) (hg : w.heap.size ≤ g) (ht : ¬ HP t) : ¬ Foot b L σ g := fun hf => by
  rcases foot_cases h ho hf with h1 | ⟨o, h1, ⟨c, t', f, h2, h3⟩ | ⟨es, q, h2⟩⟩
  · omega
  · have hb' : W.heap[g]? = _ := hb
    rw [hb'] at h1
    cases h1
    cases h2
    exact ht h3
  · have hb' : W.heap[g]? = _ := hb
    rw [hb'] at h1
    cases h1
    cases h2
theorem DevL.put_ {W : World} {b D : Nat} {L : Lay} {σ : St} {x : Option (List Deferred)} (h : DevL W b L σ) (hD : W.heap[D]? = some (.deferred x)) (o' : Obj) : DevL (W.putObj D o') b L σ := h.keep fun k hk => World.putObj_heap_other (fun e => by
  subst e
  rcases foot_obj h hk with ⟨c, t, f, h1⟩ | ⟨es, q, h1⟩ <;> rw [hD] at h1 <;> cases h1)
theorem Gr.box {X : Nat → Prop} {W W' : World} {g : Nat} {t : TypeId} {v : Value} (h : Gr X W W') (hb : Boxed W g t v) (hx : ¬ X g) : Boxed W' g t v := (h.block (lt_of_heap (show W.heap[g]? = _ from hb)) hx).trans hb
theorem Gr.sl {X : Nat → Prop} {W W' : World} {a : Option Addr} {bs : List Nat} (h : Gr X W W') (hs : Sl W a bs) (hx : ∀ ad, a = some ad → ¬ X ad.block) : Sl W' a bs := by
  rcases hs with h1 | ⟨b, off, h1, h2, h3⟩
  · exact .inl h1
  · exact .inr ⟨b, off, h1, Nat.lt_of_lt_of_le h2 h.size, fun i x hi => ⟨(World.cell?_of_block (a := ⟨b, off + i, none⟩) (h.block (k := b) h2 (hx ⟨b, off, none⟩ h1))).trans (h3 i x hi).1, (h3 i x hi).2⟩⟩
/-- A row that was laid and is stored over. -/
theorem new_row {W : World} {cur vs : List Value} {t : TypeId} (hl : vs.length = cur.length) : ((W.alloc (.cells cur.toArray t)).setCells W.heap.size 0 vs).heap[W.heap.size]? = some (.cells vs.toArray t (0, 0)) ∧ Below W.heap.size W ((W.alloc (.cells cur.toArray t)).setCells W.heap.size 0 vs) ∧ ((W.alloc (.cells cur.toArray t)).setCells W.heap.size 0 vs).heap.size = W.heap.size + 1 := by
  refine ⟨?_, ?_, ?_⟩
  · rw [heap_setCells W.heap.size t vs 0 _ cur (heapNew W _) (by omega)]
    simp [splice, hl]
  · have hA : Below W.heap.size W (W.alloc (.cells cur.toArray t)) := (Below.refl _ W).alloc (Nat.le_refl _) _
    obtain ⟨h1, h2, h3⟩ := setCells_world W.heap.size vs 0 (W.alloc (.cells cur.toArray t))
    exact ⟨h1.trans hA.os, h2.trans hA.tape, h3.trans hA.output, by rw [setCells_size]; exact hA.size, fun k hk => (heap_setCells_ne _ _ _ _ k (by omega)).trans (hA.block k hk)⟩
  · rw [setCells_size]; simp
theorem zero_content : ∃ Z : List Value, Z.length = 64 ∧ ∀ w : World, (zeroValue 73).run Try.prog w = .ok (.agg Z.toArray) w := by
  have h : (Try.prog.info? 73).map (fun i => (i.zero.map (fun z => match z with | .agg Z => Z.size | _ => 0))) = some (some 64) := by kernel_rfl
  cases hi : Try.prog.info? 73 with
  | none => rw [hi] at h; cases h
  | some it =>
    rw [hi] at h
    simp only [Option.map_some, Option.some.injEq] at h
    cases hz : it.zero with
    | none => rw [hz] at h; cases h
    | some z =>
      rw [hz] at h
      cases z <;> simp at h
      rename_i Z
      exact ⟨Z.toList, by simp [h], fun w => by simp [zeroValue, typeInfo, hi, hz]⟩
theorem wp_alloc_row {P : Program} {o : Oper} {a : Act} {w : World} {K : Act → World → Prop} {Q : Exit → Act → World → Prop} (t : TypeId) (ho : o.op = .alloc t) (Z : List Value) (hz : (zeroValue t).run P w = .ok (.agg Z.toArray) w)
    (h : K (a.put o.dst (.pointer (some ⟨w.heap.size, 0, none⟩))) (w.alloc (.cells Z.toArray t))) : o.wp P a w K Q := by
  unfold Oper.wp
  simp [execOp, ho, Instr.alloc, hz, newVar, newRow, Value.cells, Result.andThen]
  exact h
theorem wpListIn_alloc_row {l n : Nat} {P : Program} {ops : Array Oper} {rest : List Oper} {op : Oper} {a : Act} {w : World} {Q : Exit → Act → World → Prop} (hgd : op.guard = none) (t : TypeId) (ho : op.op = .alloc t) (Z : List Value) (hz : (zeroValue t).run P w = .ok (.agg Z.toArray) w)
    (h : wpListIn (Fence.wide.inRound l) n P ops Q rest (a.put op.dst (.pointer (some ⟨w.heap.size, 0, none⟩))) (w.alloc (.cells Z.toArray t))) : wpListIn (Fence.wide.inRound l) n P ops Q (op :: rest) a w :=
  wpListIn_plain hgd fun _ hK => oper_inR (by unfold noDefer; rw [ho]) (wp_alloc_row t ho Z hz (hK _ _ h))
theorem wpList_alloc_row {P : Program} {ops : Array Oper} {rest : List Oper} {op : Oper} {a : Act} {w : World} {Q : Exit → Act → World → Prop} (hgd : op.guard = none) (t : TypeId) (ho : op.op = .alloc t) (Z : List Value) (hz : (zeroValue t).run P w = .ok (.agg Z.toArray) w)
    (h : wpList P ops Q rest (a.put op.dst (.pointer (some ⟨w.heap.size, 0, none⟩))) (w.alloc (.cells Z.toArray t))) : wpList P ops Q (op :: rest) a w :=
  wpList_plain hgd fun _ hK => wp_alloc_row t ho Z hz (hK _ _ h)
