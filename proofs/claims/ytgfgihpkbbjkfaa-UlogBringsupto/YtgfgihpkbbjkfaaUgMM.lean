/- Package ulog, pure: the operations that write records; what is seen behind them. -/
import Derived.Test.YtgfgihpkbbjkfaaQPubGM
import Derived.Test.YtgfgihpkbbjkfaaPDrp
import Derived.Test.YtgfgihpkbbjkfaaQTwoM
import Derived.Deep.Cut
import Derived.Deep.RegionWith
import Derived.BigRegion
import Derived.Deep.QuietTactic
import Derived.BigQuiet
import Derived.Test.YtgfgihpkbbjkfaaRows
import Derived.WalkKit
import Derived.Test.YtgfgihpkbbjkfaaPut
import Derived.Laws.CopyOwn
import Derived.Maps.AppendAt
namespace Go.Proofs.Ytgfgihpkbbjkfaa
open Go.RowKit Go.Shelf
set_option linter.unusedVariables false

section
variable {w : World} {b : Nat} {L : Lay} {σ : St}
theorem infoArm2 : ∃ i, Try.prog.info? 89 = some i ∧ i.zero = some (.agg #[.int .i64 0, .slice none 0 0]) ∧ i.size = 2 ∧ i.bytes = 32 := by
  have h : (Try.prog.info? 89).map (fun i => (i.zero, i.size, i.bytes)) = some (some (.agg #[.int .i64 0, .slice none 0 0]), 2, 32) := by kernel_rfl
  obtain ⟨i, h1, h2⟩ := Option.map_eq_some_iff.1 h
  simp only [Prod.mk.injEq] at h2
  exact ⟨i, h1, h2.1, h2.2.1, h2.2.2⟩
theorem infoInt2 : ∃ i, Try.prog.info? 3 = some i ∧ i.zero = some (.int .i64 0) ∧ i.size = 1 ∧ i.bytes = 8 := by
  have h : (Try.prog.info? 3).map (fun i => (i.zero, i.size, i.bytes)) = some (some (.int .i64 0), 1, 8) := by kernel_rfl
  obtain ⟨i, h1, h2⟩ := Option.map_eq_some_iff.1 h
  simp only [Prod.mk.injEq] at h2
  exact ⟨i, h1, h2.1, h2.2.1, h2.2.2⟩
theorem cut_ints (g m cap : Nat) (hm : m ≤ cap) (w : World) : (Instr.sliceAt 87 (.slice (some ⟨g, 0, none⟩) m cap) none (some (.int .i64 (m : Int))) none).run Try.prog w = .ok (.slice (some ⟨g, 0, none⟩) m cap) w := by
  obtain ⟨i, h1, _⟩ := infoInt2
  simp [Instr.sliceAt, Instr.slice, Sem.run_bind, run_underlying Try.underlying87, Instr.sliceBounds, Instr.sliceBound, asIntOf, sizeOf, typeInfo, h1, Addr.add_mid, hm]
theorem slice_arm (X : List Value) (w : World) (hx : X.length = 2) : (Instr.buildSlice 24 1 #[(0, .agg X.toArray)]).run Try.prog w = .ok (.slice (some ⟨w.heap.size, 0, none⟩) 1 1) (w.alloc (.cells X.toArray 89)) := by
  obtain ⟨it, hi, hz, h2, _⟩ := infoArm2
  refine run_buildSlice w _ 89 1 _ X.toArray it (.agg #[.int .i64 0, .slice none 0 0]) armSlice hi hz (by rw [h2]; decide) (by rw [h2]; decide) ?_
  rw [h2]
  have := Great.fill_whole (s := 2) (by decide) [.agg X.toArray] ((Array.range (1 * 2)).map ((Value.agg #[.int .i64 0, .slice none 0 0]).cells[· % (Value.agg #[.int .i64 0, .slice none 0 0]).cells.size]!)) (by simp [Value.cells, hx]) (by simp)
  simpa [Value.cells] using this
theorem wp_slice_arm {o : Oper} {a : Act} {w : World} {K : Act → World → Prop} {Q : Exit → Act → World → Prop} (x : Operand) (ho : o.op = .buildSlice 24 1 #[(0, x)]) (X : List Value) (hx : a.eval x = .agg X.toArray) (hl : X.length = 2)
    (h : K (a.put o.dst (.slice (some ⟨w.heap.size, 0, none⟩) 1 1)) (w.alloc (.cells X.toArray 89))) : o.wp Try.prog a w K Q := by
  have hr := slice_arm X w hl
  unfold Oper.wp execOp
  simp only [ho, Sem.run_bind, List.map_toArray, List.map_cons, List.map_nil, hx, hr, Result.andThen_ok]
  exact h
set_option maxRecDepth 100000 in
/-- A list of ints of its own. -/
theorem pcloneI (g m cp : Nat) (kp : List Nat) (w : World) (hm : kp.length = m) (hm1 : 1 ≤ m) (hn : ∀ j k : Nat, kp[j]? = some k → w.cell? ⟨g, j, none⟩ = some (.int .i64 (k : Int))) (hms : m ≤ 65536) :
    Calls Try.prog 39 #[.slice (some ⟨g, 0, none⟩) m cp] w fun e w' => ∃ gn cn, e = .returned (.slice (some ⟨gn, 0, none⟩) m cn) ∧ w.heap.size ≤ gn ∧ (∃ c, w'.heap[gn]? = some (.cells c 3 (0, 0))) ∧ (∀ j k : Nat, kp[j]? = some k → w'.cell? ⟨gn, j, none⟩ = some (.int .i64 (k : Int))) ∧ Below w.heap.size w w' := by
  obtain ⟨it, hit, hz, h65, h72⟩ := infoInt2
  obtain ⟨news, hnews⟩ : ∃ news, news = kp.map (fun k : Nat => Value.int .i64 (k : Int)) := ⟨_, rfl⟩
  have hl : news.length = m * 1 := by rw [hnews, List.length_map, hm, Nat.mul_one]
  have hA : Below w.heap.size w (w.alloc (.cells #[] 3)) := (Below.refl _ w).alloc (Nat.le_refl _) _
  have ho : (w.alloc (.cells #[] 3)).ownsRow 0 3 1 (.slice (some ⟨w.heap.size, 0, none⟩) 0 0) 0 [] := ⟨rfl, .inr ⟨w.heap.size, 0, #[], rfl, Nat.zero_le _, heapNew w _, Nat.le_refl _, Nat.zero_le _, rfl, rfl⟩⟩
  have hn' : ∀ j u, news[j]? = some u → (w.alloc (.cells #[] 3)).cell? ((⟨g, 0, none⟩ : Addr).add j) = some u := fun j u hu => by
    rw [hnews, List.getElem?_map] at hu
    obtain ⟨k, hk, rfl⟩ := Option.map_eq_some_iff.1 hu
    rw [Addr.add_mid, Nat.zero_add]
    exact (hA.cell (World.block_lt_of_cell? _ _ (hn j k hk))).trans (hn j k hk)
  have h1 : ∀ u ∈ news, u.oneCell' = true := fun u hu => by
    rw [hnews] at hu
    obtain ⟨k, _, rfl⟩ := List.mem_map.1 hu
    rfl
  have hbs : (Instr.buildSlice 87 0 #[]).run Try.prog w = .ok (.slice (some ⟨w.heap.size, 0, none⟩) 0 0) (w.alloc (.cells #[] 3)) := by
    simp [Instr.buildSlice, run_underlying Try.underlying87, sizeOf, typeInfo, hit, Instr.fill, newRow]
    rw [show Array.map (fun (_ : Nat) => (default : Value)) (Array.range 0) = #[] from Array.eq_empty_of_size_eq_zero (by simp)]
  have hq : (binOp .eql 87 (.slice (some ⟨g, 0, none⟩) m cp) (.slice none 0 0)).run Try.prog w = .ok (.bool false) w := by
    have h : ∀ d : Nat, (Op.equalIn (d + 1) 87 (.slice (some ⟨g, 0, none⟩) m cp) (.slice none 0 0)).run Try.prog w = .ok false w := fun d => by
      simp [Op.equalIn, run_underlying Try.underlying87]
    simp only [binOp]
    simp [Op.equal, Op.maxDepth, h 9999]
  have HA := hide hA
  have HO := hide ho
  have HN := hide hn'
  have HM := hide hm
  have HNW := hide hnews
  clear hA ho hn hn' hm hnews
  go_enter Try.func39, Try.ntmps39
  go_wp2_with (at_builtin; refine wpList_append_own_at _ rfl _ _ 87 rfl 0 3 it (.int .i64 0) 1 8 Try.underlying87 hit hz h65 h72 (by rfl) (by decide) (.slice (some ⟨w.heap.size, 0, none⟩) 0 0) 0 [] rfl HO.out ⟨g, 0, none⟩ m cp news rfl hl HN.out h1 (by unfold maxLen; omega) (by omega) (Nat.zero_le _) ?_; intro v1 x1 ho2 hg2 hnl hat; go_frame)
  go_ret
  rw [Nat.zero_add, List.nil_append] at ho2
  rcases ho2.2 with ⟨rfl, h0⟩ | ⟨gn, cn, cur, rfl, q1, q2, q3, q4, q5, q6⟩
  · omega
  · have hgn : w.heap.size ≤ gn := by rcases hat with e | e <;> cases e <;> simp
    refine ⟨gn, cn, rfl, hgn, ⟨cur, q2⟩, fun j k hj => ?_, ?_⟩
    · rw [cell8 q2]
      have h9 : (cur.toList.take (m * 1))[j]? = some (.int .i64 (k : Int)) := by rw [q6, HNW.out, List.getElem?_map, hj]; rfl
      have hjm : j < m := by have h8 := (List.getElem?_eq_some_iff.1 hj).1; have h7 := HM.out; omega
      rw [List.getElem?_take, if_pos (by omega)] at h9
      simpa using h9
    · exact ⟨hg2.os.trans HA.out.os, hg2.tape.trans HA.out.tape, hg2.output.trans HA.out.output, Nat.le_trans HA.out.size hg2.size, fun k hk => (hg2.block k (Nat.lt_of_lt_of_le hk HA.out.size) (fun e => by simp [Value.ownBlock] at e; omega)).trans (HA.out.block k hk)⟩
/-- A loss waits. -/
theorem DevL.armed {w' : World} {v8 kv : Value} {gk af : Nat} {kp : List Nat} (h : DevL w b L σ) (hb : w'.heap[b]? = some (.cells (devC b { L with av := v8 } { σ with arms := [(af, kp)] }) 69 (0, 0))) (hrow : w'.ownsRow 0 89 2 v8 1 [.int .i64 (af : Int), kv])
    (hkeep : KeepAt w' (fun k => k = gk) kv kp) (hgk : ∃ c, w'.heap[gk]? = some (.cells c 3 (0, 0))) (hk : ∀ k, k < w.heap.size → k ≠ b → L.av.ownBlock ≠ some k → w'.heap[k]? = w.heap[k]?) :
    DevL w' b { L with av := v8, KB := fun k => k = gk } { σ with arms := [(af, kp)] } := by
  have hs : ∀ (k : Nat) (c : Array Value) t fr, w.heap[k]? = some (Obj.cells c t fr) → t ≠ 69 → t ≠ 89 → w'.heap[k]? = w.heap[k]? := fun k c t fr h1 h2 h3 => hk k (lt_of_heap h1) (ne_ty h1 h.dev h2) (fun e => by obtain ⟨c', hc'⟩ := h.av_row e; exact ne_ty h1 hc' h3 rfl)
  have hm : ∀ (k : Nat) es q, w.heap[k]? = some (Obj.map es q) → w'.heap[k]? = w.heap[k]? := fun k es q h1 => hk k (lt_of_heap h1) (ne_map h.dev h1).symm (fun e => by obtain ⟨c', hc'⟩ := h.av_row e; exact ne_map hc' h1 rfl)
  obtain ⟨e1, k1, hob⟩ := h.old.block
  obtain ⟨e2, k2, hfb⟩ := h.flm.block
  refine ⟨hb, (hs _ _ _ _ h.seen (by decide) (by decide)).trans h.seen, h.old.of_block (hm _ _ _ hob), h.flm.of_block (hm _ _ _ hfb),
    fun i hi => (h.pasts i hi).keep (hs _ _ _ _ (h.pasts i hi).1 (by decide) (by decide)) (fun g' hg' => ?_), h.pne, h.rne, h.mne, ⟨[kv], rfl, hrow, fun i k a h1 h2 => ?_⟩, fun k hkb => ?_⟩
  · obtain ⟨c, hc⟩ := (h.pasts i hi).row hg'
    exact hs _ _ _ _ hc (by decide) (by decide)
  · cases i with
    | zero => cases h1; cases h2; exact hkeep
    | succ i => simp at h1
  · subst hkb; exact hgk
set_option maxRecDepth 100000 in
set_option maxHeartbeats 400000 in
/-- Arm of one loss. -/
theorem parm_one {af ga gk m ck : Nat} {kp : List Nat} (h : DevL w b L σ) (hok : σ.Ok) (ho : σ.off = false) (harm : σ.arms = []) (haf : 1 ≤ af) (hga : w.heap[ga]? = some (.cells #[.int .i64 (af : Int), .slice (some ⟨gk, 0, none⟩) m ck] 89 (0, 0)))
    (hkl : kp.length = m) (hm1 : 1 ≤ m) (hmn : m ≤ σ.n) (hmc : m ≤ ck) (hk : SlN w (some ⟨gk, 0, none⟩) kp) (hav : ¬ L.av.ownBlock = some ga) :
    Calls Try.prog 13 #[.pointer (some ⟨b, 0, none⟩), .slice (some ⟨ga, 0, none⟩) 1 1] w fun e w' => e = .returned (.int .i64 0) ∧ ∃ L', DevL w' b L' { σ with arms := [(af, kp)] } ∧ (∀ k, Foot b L' { σ with arms := [(af, kp)] } k → Foot b L σ k ∨ w.heap.size ≤ k) ∧ Gr (Foot b L σ) w w' ∧ L'.N ≤ L.N := by
  have hmx := hok.max
  have ks := pstate_any h
  rw [ho] at ks
  simp only [Bool.false_eq_true, if_false] at ks
  obtain ⟨ia, hia, hiz, his, hib⟩ := infoArm2
  have hav0 : w.ownsRow 0 89 2 L.av 0 [] := by
    obtain ⟨ks', hl', ho', _⟩ := h.arms
    rw [harm] at hl' ho'
    have : ks' = [] := List.eq_nil_of_length_eq_zero (by simpa using hl')
    subst this
    exact ho'
  obtain ⟨avp, avc, hava⟩ := own_slice hav0
  have hkc : ∀ j k : Nat, kp[j]? = some k → w.cell? ⟨gk, j, none⟩ = some (.int .i64 (k : Int)) := fun j k hj => by
    obtain ⟨g, o, e, h1, _⟩ := hk.at hj
    cases e
    rw [Nat.zero_add] at h1
    exact h1
  have km : ∀ W : World, Below w.heap.size w W → Calls Try.prog 38 #[.slice (some ⟨gk, 0, none⟩) m ck] W fun e w' => e = .returned (.bool true) ∧ w' = W := fun W hB => by
    have h5 := pmay_any (w := W) ck (hk.keep (fun k c f h1 => hB.block k (lt_of_heap h1))) (by omega)
    rwa [hkl] at h5
  have kc : ∀ W : World, Below w.heap.size w W → Calls Try.prog 39 #[.slice (some ⟨gk, 0, none⟩) m ck] W fun e w' => ∃ gn cn, e = .returned (.slice (some ⟨gn, 0, none⟩) m cn) ∧ W.heap.size ≤ gn ∧ (∃ c, w'.heap[gn]? = some (.cells c 3 (0, 0))) ∧ (∀ j k : Nat, kp[j]? = some k → w'.cell? ⟨gn, j, none⟩ = some (.int .i64 (k : Int))) ∧ Below W.heap.size W w' := fun W hB =>
    pcloneI gk m ck kp W hkl hm1 (fun j k hj => (hB.cell (World.block_lt_of_cell? _ _ (hkc j k hj))).trans (hkc j k hj)) (by omega)
  have fx : ∀ W : World, Below w.heap.size w W → W.cell? ⟨ga, 0, none⟩ = some (.int .i64 (af : Int)) ∧ W.cell? ⟨ga, 1, none⟩ = some (.slice (some ⟨gk, 0, none⟩) m ck) ∧ W.cell? ⟨b, 5, none⟩ = some L.av ∧ W.cell? ⟨b, 1, none⟩ = some (.slice (some ⟨L.sb, 0, none⟩) σ.n L.cp) := fun W hB => by
    have e1 := (hB.block ga (lt_of_heap hga)).trans hga
    have e2 := (hB.block b h.lt).trans h.dev
    exact ⟨cell8 e1 0, cell8 e1 1, cell8 e2 5, cell8 e2 1⟩
  have ix := fun Y => index_arm ga 1 1 (by omega) Y
  have HD := hide h
  have HAV0 := hide hav0
  have HAVA := hide hava
  have KS := hide ks
  have KM := hide km
  have KC := hide kc
  have FX := hide fx
  have HKL := hide hkl
  have HK := hide hk
  have afI : ¬ (af : Int) < 1 := by omega
  have mI : (m : Int) ≤ (σ.n : Int) := by omega
  clear h ks km kc fx hkl hk hok ho harm hkc hga hav0 hava hav
  go_enter Try.func13, Try.ntmps13
  go_wp2_with (go_at_call 37; refine (KS.out).mono ?_; rintro e w' ⟨rfl, hw⟩; obtain rfl := hw.symm)
  go_loopw [18] (fun iv wr => (iv = .int .i64 0 ∨ iv = .int .i64 1) ∧ Below w.heap.size w wr) (fun iv _ => (1 - (intOf iv).toNat))
  case atStart => exact ⟨.inl rfl, Below.refl _ _⟩
  case round =>
    obtain ⟨rfl | rfl, hB⟩ := hrel
    · obtain ⟨f0, f1, f5, f6⟩ := FX.out wr hB
      have hB1 : Below w.heap.size w (wr.alloc (.cells #[.int .i64 (af : Int), .slice (some ⟨gk, 0, none⟩) m ck] 89)) := hB.alloc hB.size _
      have HB1 := hide hB1
      clear hB hB1
      go_wp2_with (go_at_call 38; refine (KM.out _ ?hx).mono ?_; (case hx => exact HB1.out); rintro e w' ⟨rfl, hw⟩; obtain rfl := hw.symm)
      go_roundw
      case rel => exact ⟨.inr rfl, HB1.out⟩
      case measure => simp [intOf]
    · obtain ⟨f0, f1, f5, f6⟩ := FX.out wr hB
      rw [HAVA.out] at f5
      have HB := hide hB
      clear hB
      go_wp2_with (fail)
      go_loopw [43] (fun iv wx => (iv = .int .i64 0 ∧ Below w.heap.size w wx) ∨ (iv = .int .i64 1 ∧ ∃ L', DevL wx b L' { σ with arms := [(af, kp)] } ∧ (∀ k, Foot b L' { σ with arms := [(af, kp)] } k → Foot b L σ k ∨ w.heap.size ≤ k) ∧ Gr (Foot b L σ) w wx ∧ L'.N ≤ L.N)) (fun iv _ => (1 - (intOf iv).toNat))
      case atStart => exact .inl ⟨rfl, HB.out⟩
      case round =>
        rcases hrel with ⟨rfl, hB⟩ | ⟨rfl, hF⟩
        · obtain ⟨f0, f1, f5x, f6x⟩ := FX.out wr hB
          have hB1 : Below w.heap.size w (wr.alloc (.cells #[.int .i64 (af : Int), .slice (some ⟨gk, 0, none⟩) m ck] 89)) := hB.alloc hB.size _
          obtain ⟨_, _, g5, g6⟩ := FX.out _ hB1
          have ha1 := heapNew wr (.cells #[.int .i64 (af : Int), .slice (some ⟨gk, 0, none⟩) m ck] 89)
          have s15 : (wr.alloc (.cells #[.int .i64 (af : Int), .slice (some ⟨gk, 0, none⟩) m ck] 89)).drew.cell? ⟨wr.heap.size, 1, none⟩ = some (.slice (some ⟨gk, 0, none⟩) m ck) ∧ (wr.alloc (.cells #[.int .i64 (af : Int), .slice (some ⟨gk, 0, none⟩) m ck] 89)).drew.cell? ⟨b, 1, none⟩ = some (.slice (some ⟨L.sb, 0, none⟩) σ.n L.cp) := ⟨cell8 (w := (wr.alloc (.cells #[.int .i64 (af : Int), .slice (some ⟨gk, 0, none⟩) m ck] 89)).drew) ha1 1, g6⟩
          have S15 := hide s15
          have HB1 := hide hB1
          have HA1 := hide ha1
          have HBW := hide hB
          clear hB hB1 ha1 s15 g5 g6 f5x f6x
          go_wp2_with (fail)
          refine wp_region_held_drew (S := fun Y => Y.cell? ⟨wr.heap.size, 1, none⟩ = some (.slice (some ⟨gk, 0, none⟩) m ck) ∧ Y.cell? ⟨b, 1, none⟩ = some (.slice (some ⟨L.sb, 0, none⟩) σ.n L.cp)) (by kernel_rfl) S15.out (fun hS => ?_)
          refine wpAnyH_take (i := 0) (v := (.pointer (some ⟨wr.heap.size, 1, none⟩))) rfl (by kernel_rfl) (by kernel_rfl) (by kernel_rfl) (fun _ _ _ h => h) (Or.inl ⟨by kernel_rfl, fun w' hw => by (go_simp)⟩) hS ?_
          refine wpAnyH_take (i := 1) (v := (.slice (some ⟨gk, 0, none⟩) m ck)) rfl (by kernel_rfl) (by kernel_rfl) (by kernel_rfl) (fun _ _ _ h => h) (Or.inl ⟨by kernel_rfl, fun w' hw => by (obtain ⟨z0, z1⟩ := hw; go_simp)⟩) hS ?_
          refine wpAnyH_take (i := 2) (v := (.pointer (some ⟨wr.heap.size, 1, none⟩))) rfl (by kernel_rfl) (by kernel_rfl) (by kernel_rfl) (fun _ _ _ h => h) (Or.inl ⟨by kernel_rfl, fun w' hw => by (go_simp)⟩) hS ?_
          refine wpAnyH_take (i := 3) (v := (.slice (some ⟨gk, 0, none⟩) m ck)) rfl (by kernel_rfl) (by kernel_rfl) (by kernel_rfl) (fun _ _ _ h => h) (Or.inl ⟨by kernel_rfl, fun w' hw => by (obtain ⟨z0, z1⟩ := hw; go_simp)⟩) hS ?_
          refine wpAnyH_take (i := 4) (v := (.int .i64 (m : Int))) rfl (by kernel_rfl) (by kernel_rfl) (by kernel_rfl) (fun _ _ _ h => h) (Or.inl ⟨by kernel_rfl, fun w' hw => by (go_simp)⟩) hS ?_
          refine wpAnyH_take (i := 5) (v := (.pointer (some ⟨b, 0, none⟩))) rfl (by kernel_rfl) (by kernel_rfl) (by kernel_rfl) (fun _ _ _ h => h) (Or.inl ⟨by kernel_rfl, fun w' hw => by (go_simp)⟩) hS ?_
          refine wpAnyH_take (i := 6) (v := (.pointer (some ⟨b, 0, none⟩))) rfl (by kernel_rfl) (by kernel_rfl) (by kernel_rfl) (fun _ _ _ h => h) (Or.inl ⟨by kernel_rfl, fun w' hw => by (go_simp)⟩) hS ?_
          refine wpAnyH_take (i := 7) (v := (.pointer (some ⟨b, 1, none⟩))) rfl (by kernel_rfl) (by kernel_rfl) (by kernel_rfl) (fun _ _ _ h => h) (Or.inl ⟨by kernel_rfl, fun w' hw => by (go_simp)⟩) hS ?_
          refine wpAnyH_take (i := 8) (v := (.slice (some ⟨L.sb, 0, none⟩) σ.n L.cp)) rfl (by kernel_rfl) (by kernel_rfl) (by kernel_rfl) (fun _ _ _ h => h) (Or.inl ⟨by kernel_rfl, fun w' hw => by (obtain ⟨z0, z1⟩ := hw; go_simp)⟩) hS ?_
          refine wpAnyH_take (i := 9) (v := (.int .i64 (σ.n : Int))) rfl (by kernel_rfl) (by kernel_rfl) (by kernel_rfl) (fun _ _ _ h => h) (Or.inl ⟨by kernel_rfl, fun w' hw => by (go_simp)⟩) hS ?_
          refine wpAnyH_take (i := 10) (v := (.int .i64 (m : Int))) rfl (by kernel_rfl) (by kernel_rfl) (by kernel_rfl) (fun _ _ _ h => h) (Or.inl ⟨by kernel_rfl, fun w' hw => by (go_simp; intro hx; omega)⟩) hS ?_
          refine wpAnyH_take (i := 11) (v := (.slice (some ⟨gk, 0, none⟩) m ck)) rfl (by kernel_rfl) (by kernel_rfl) (by kernel_rfl) (fun _ _ _ h => h) (Or.inl ⟨by kernel_rfl, fun w' hw => by (have e := cut_ints gk m ck hmc w'; go_simp)⟩) hS ?_
          refine wpAnyH_take (i := 12) (v := (.slice (some ⟨gk, 0, none⟩) m ck)) rfl (by kernel_rfl) (by kernel_rfl) (by kernel_rfl) (fun _ _ _ h => h) (Or.inl ⟨by kernel_rfl, fun w' hw => by (go_simp)⟩) hS ?_
          refine wpAnyH_done (by kernel_rfl) ?_ _
          simp only [Act.put, List.getElem_toArray, List.getElem_cons_zero, List.getElem_cons_succ, List.setIfInBounds_toArray, List.set_cons_zero, List.set_cons_succ]
          go_wp2_with (fail)
          have hw0 : Below w.heap.size w (wr.alloc (.cells #[.int .i64 (af : Int), .slice (some ⟨gk, 0, none⟩) m ck] 89)).drew := HB1.out.drew
          have ha0 : (wr.alloc (.cells #[.int .i64 (af : Int), .slice (some ⟨gk, 0, none⟩) m ck] 89)).drew.heap[wr.heap.size]? = some (.cells #[.int .i64 (af : Int), .slice (some ⟨gk, 0, none⟩) m ck] 89 (0, 0)) := HA1.out
          have hsz0 : wr.heap.size < (wr.alloc (.cells #[.int .i64 (af : Int), .slice (some ⟨gk, 0, none⟩) m ck] 89)).drew.heap.size := lt_of_heap ha0
          generalize (wr.alloc (.cells #[.int .i64 (af : Int), .slice (some ⟨gk, 0, none⟩) m ck] 89)).drew = W0 at *
          have hb0 := (hw0.block b HD.out.lt).trans HD.out.dev
          have s16 : W0.drew.cell? ⟨b, 5, none⟩ = some L.av ∧ W0.drew.cell? ⟨wr.heap.size, 0, none⟩ = some (.int .i64 (af : Int)) := ⟨cell8 (w := W0.drew) hb0 5, cell8 (w := W0.drew) ha0 0⟩
          have S16 := hide s16
          have HW0 := hide (hw0.drew : Below w.heap.size w W0.drew)
          have HB0 := hide hb0
          have HA0 := hide ha0
          have arm5 : ∀ (W4 : World) (gn cn : Nat), Below W0.drew.heap.size W0.drew W4 → ((W4.alloc (.cells #[.int .i64 (af : Int), .slice (some ⟨gn, 0, none⟩) m cn] 89)).cell? ⟨b, 5, none⟩ = some L.av ∧ (W4.alloc (.cells #[.int .i64 (af : Int), .slice (some ⟨gn, 0, none⟩) m cn] 89)).cell? ⟨wr.heap.size, 0, none⟩ = some (.int .i64 (af : Int))) ∧ (W4.alloc (.cells #[.int .i64 (af : Int), .slice (some ⟨gn, 0, none⟩) m cn] 89)).ownsRow 0 89 2 L.av 0 [] ∧ (∀ (j : Nat) (u : Value), ([.int .i64 (af : Int), .slice (some ⟨gn, 0, none⟩) m cn] : List Value)[j]? = some u → (W4.alloc (.cells #[.int .i64 (af : Int), .slice (some ⟨gn, 0, none⟩) m cn] 89)).cell? ((⟨W4.heap.size, 0, none⟩ : Addr).add j) = some u) ∧ (∀ W8 : World, (W4.alloc (.cells #[.int .i64 (af : Int), .slice (some ⟨gn, 0, none⟩) m cn] 89)).grownBy W8 L.av.ownBlock → W8.cell? ⟨b, 5, none⟩ = some L.av ∧ W8.frozen? ⟨b, 5, none⟩ = false ∧ W8.cell? ⟨wr.heap.size, 0, none⟩ = some (.int .i64 (af : Int))) := fun W4 gn cn hB4 => by
            have e4 : W0.drew.heap.size ≤ W4.heap.size := hB4.size
            have hB5 : Below W0.drew.heap.size W0.drew (W4.alloc (.cells #[.int .i64 (af : Int), .slice (some ⟨gn, 0, none⟩) m cn] 89)) := hB4.alloc e4 _
            have x1 : (W4.alloc (.cells #[.int .i64 (af : Int), .slice (some ⟨gn, 0, none⟩) m cn] 89)).heap[b]? = _ := (hB5.block b (lt_of_heap hb0)).trans hb0
            have x2 : (W4.alloc (.cells #[.int .i64 (af : Int), .slice (some ⟨gn, 0, none⟩) m cn] 89)).heap[wr.heap.size]? = _ := (hB5.block _ (lt_of_heap ha0)).trans ha0
            have hlt : ∀ g, L.av.ownBlock = some g → g < w.heap.size := fun g hg => by obtain ⟨c', hc'⟩ := own_type HAV0.out hg; exact lt_of_heap hc'
            refine ⟨⟨cell8 x1 5, cell8 x2 0⟩, ownsRow_of_block HAV0.out (fun g hg => (hB5.block g (Nat.lt_of_lt_of_le (hlt g hg) hw0.size)).trans (hw0.block g (hlt g hg))), fun j u hu => ?_, fun W8 hg8 => ?_⟩
            · have h := range_all (heapNew W4 (.cells ([.int .i64 (af : Int), .slice (some ⟨gn, 0, none⟩) m cn] : List Value).toArray 89)) j u hu
              rw [Addr.add_mid]; exact h
            · have y1 := (hg8.block b (lt_of_heap x1) (fun e => by obtain ⟨c', hc'⟩ := own_type HAV0.out e.symm; exact ne_ty hc' HD.out.dev (by decide) rfl)).trans x1
              have y2 := (hg8.block _ (lt_of_heap x2) (fun e => by have := hlt _ e.symm; have := HBW.out.size; omega)).trans x2
              exact ⟨cell8 y1 5, froz8 y1 5, cell8 y2 0⟩
          have ARM5 := hide arm5
          clear hw0 hb0 ha0 s16 arm5 HA1 HB1 S15
          refine wp_region_early 14 (fun Y => Y.cell? ⟨b, 5, none⟩ = some L.av ∧ Y.cell? ⟨wr.heap.size, 0, none⟩ = some (.int .i64 (af : Int))) (by kernel_rfl) S16.out (fun hS => ?_)
          refine wpAnyE_take (i := 0) (v := (.pointer (some ⟨b, 0, none⟩))) rfl (by kernel_rfl) (by kernel_rfl) (by kernel_rfl) (by kernel_rfl) (fun _ _ _ h => h) (Or.inl ⟨by kernel_rfl, fun w' hw => by (go_simp)⟩) hS ?_
          refine wpAnyE_take (i := 1) (v := (.pointer (some ⟨b, 0, none⟩))) rfl (by kernel_rfl) (by kernel_rfl) (by kernel_rfl) (by kernel_rfl) (fun _ _ _ h => h) (Or.inl ⟨by kernel_rfl, fun w' hw => by (go_simp)⟩) hS ?_
          refine wpAnyE_take (i := 2) (v := (.pointer (some ⟨b, 0, none⟩))) rfl (by kernel_rfl) (by kernel_rfl) (by kernel_rfl) (by kernel_rfl) (fun _ _ _ h => h) (Or.inl ⟨by kernel_rfl, fun w' hw => by (go_simp)⟩) hS ?_
          refine wpAnyE_take (i := 3) (v := (.pointer (some ⟨b, 5, none⟩))) rfl (by kernel_rfl) (by kernel_rfl) (by kernel_rfl) (by kernel_rfl) (fun _ _ _ h => h) (Or.inl ⟨by kernel_rfl, fun w' hw => by (go_simp)⟩) hS ?_
          refine wpAnyE_take (i := 4) (v := L.av) rfl (by kernel_rfl) (by kernel_rfl) (by kernel_rfl) (by kernel_rfl) (fun _ _ _ h => h) (Or.inl ⟨by kernel_rfl, fun w' hw => by (obtain ⟨z0, z1⟩ := hw; go_simp)⟩) hS ?_
          refine wpAnyE_take (i := 5) (v := (.pointer (some ⟨wr.heap.size, 0, none⟩))) rfl (by kernel_rfl) (by kernel_rfl) (by kernel_rfl) (by kernel_rfl) (fun _ _ _ h => h) (Or.inl ⟨by kernel_rfl, fun w' hw => by (go_simp)⟩) hS ?_
          refine wpAnyE_take (i := 6) (v := (.int .i64 (af : Int))) rfl (by kernel_rfl) (by kernel_rfl) (by kernel_rfl) (by kernel_rfl) (fun _ _ _ h => h) (Or.inl ⟨by kernel_rfl, fun w' hw => by (obtain ⟨z0, z1⟩ := hw; go_simp)⟩) hS ?_
          refine wpAnyE_take (i := 7) (v := (.slice (some ⟨gk, 0, none⟩) m ck)) rfl (by kernel_rfl) (by kernel_rfl) (by kernel_rfl) (by kernel_rfl) (fun _ _ _ h => h) (Or.inl ⟨by kernel_rfl, fun w' hw => by (go_simp)⟩) hS ?_
          refine wpAnyE_do (i := 8) (by kernel_rfl) rfl (by kernel_rfl) (fun K hK => ?_)
          go_wp2_with (go_at_call 39; refine (KC.out _ ?hx).mono ?_; (case hx => exact HW0.out); rintro e W4 ⟨gn, cn, rfl, hgn, hgc, hcl, hB4⟩; have HGN := hide hgn; have HGC := hide hgc; have HCL := hide hcl; have HB4 := hide hB4; clear hgn hgc hcl hB4)
          have s4 : W4.cell? ⟨b, 5, none⟩ = some L.av ∧ W4.cell? ⟨wr.heap.size, 0, none⟩ = some (.int .i64 (af : Int)) := ⟨cell8 ((HB4.out.block b (lt_of_heap HB0.out)).trans HB0.out) 5, cell8 ((HB4.out.block _ (lt_of_heap HA0.out)).trans HA0.out) 0⟩
          refine hK.out _ _ (fun _ => s4) ?_
          clear hK K
          refine wpAnyE_take (i := 9) (v := (.agg #[.int .i64 (af : Int), .slice (some ⟨gn, 0, none⟩) m cn])) rfl (by kernel_rfl) (by kernel_rfl) (by kernel_rfl) (by kernel_rfl) (fun _ _ _ h => h) (Or.inl ⟨by kernel_rfl, fun w' hw => by (go_simp)⟩) s4 ?_
          refine wpAnyE_do (i := 10) (by kernel_rfl) rfl (by kernel_rfl) (fun K hK => ?_)
          refine wp_slice_arm (.tmp 68) (by kernel_rfl) [.int .i64 (af : Int), .slice (some ⟨gn, 0, none⟩) m cn] (by kernel_rfl) (by simp) ?_
          obtain ⟨s5, qo, qc, q8⟩ := ARM5.out W4 gn cn HB4.out
          have QO := hide qo
          have QC := hide qc
          have Q8 := hide q8
          clear qo qc q8
          refine hK.out _ _ (fun _ => s5) ?_
          clear hK K
          refine wpAnyE_do (i := 11) (by kernel_rfl) rfl (by kernel_rfl) (fun K hK => ?_)
          refine wp_append_at (.tmp 63) (.tmp 69) 24 (by kernel_rfl) 0 89 ia (.agg #[.int .i64 0, .slice none 0 0]) 2 32 armSlice hia hiz his hib (by rfl) (by decide) L.av 0 [] (by kernel_rfl) QO.out ⟨W4.heap.size, 0, none⟩ 1 1 [.int .i64 (af : Int), .slice (some ⟨gn, 0, none⟩) m cn] (by kernel_rfl) (by simp) QC.out (by simp [Value.oneCell']) (by unfold maxLen; omega) (by omega) (Nat.zero_le _) ?_
          intro v8 W8 ho8 hg8 _ hl8
          obtain ⟨r0, rf, r1⟩ := Q8.out W8 hg8
          obtain ⟨a8, c8, rfl⟩ := own_slice ho8
          have HO8 := hide ho8
          have HG8 := hide hg8
          have HL8 := hide hl8
          clear ho8 hg8 hl8
          refine hK.out _ _ (fun _ => ⟨r0, r1⟩) ?_
          clear hK K
          refine wpAnyE_do (i := 12) (by kernel_rfl) rfl (by kernel_rfl) (fun K hK => ?_)
          go_simp
          refine hK.out _ _ (fun _ => ⟨r0, r1⟩) ?_
          clear hK K
          refine wpAnyE_do (i := 13) (by kernel_rfl) rfl (by kernel_rfl) (fun K hK => ?_)
          go_simp
          refine hK.out _ _ (fun _ => ⟨r0, r1⟩) ?_
          clear hK K
          refine wpAnyE_do (i := 14) (by kernel_rfl) rfl (by kernel_rfl) (fun K hK => ?_)
          go_simp
          refine hK.out _ _ (fun h => absurd rfl h) ?_
          clear hK K
          refine wpAnyE_done (by kernel_rfl) ?_ _
          try simp only [Act.put, List.getElem_toArray, List.getElem_cons_zero, List.getElem_cons_succ, List.setIfInBounds_toArray, List.set_cons_zero, List.set_cons_succ]
          go_wp2_with (fail)
          go_roundw
          case measure => simp [intOf]
          case rel =>
            refine .inr ⟨rfl, ?_⟩
            have hw0 : Below w.heap.size w W0.drew := HW0.out
            have hB4 := HB4.out
            have e4 : W0.drew.heap.size ≤ W4.heap.size := hB4.size
            have hB5 : Below W0.drew.heap.size W0.drew (W4.alloc (.cells #[.int .i64 (af : Int), .slice (some ⟨gn, 0, none⟩) m cn] 89)) := hB4.alloc e4 _
            have hw5 : Below w.heap.size w (W4.alloc (.cells #[.int .i64 (af : Int), .slice (some ⟨gn, 0, none⟩) m cn] 89)) := hw0.trans (hB5.mono hw0.size)
            have hg8 := HG8.out
            have hlt : ∀ g, L.av.ownBlock = some g → g < w.heap.size := fun g hg => by obtain ⟨c', hc'⟩ := own_type HAV0.out hg; exact lt_of_heap hc'
            have hnb : L.av.ownBlock ≠ some b := fun e => by obtain ⟨c', hc'⟩ := own_type HAV0.out e; exact ne_ty hc' HD.out.dev (by decide) rfl
            have x1 : (W4.alloc (.cells #[.int .i64 (af : Int), .slice (some ⟨gn, 0, none⟩) m cn] 89)).heap[b]? = _ := (hw5.block b HD.out.lt).trans HD.out.dev
            have y1 : W8.heap[b]? = _ := (hg8.block b (lt_of_heap x1) (fun e => hnb e.symm)).trans x1
            have z1 := heap_set1 W8 b 5 _ _ (.slice a8 1 c8) y1
            have hgn5 : gn ≠ b ∧ L.av.ownBlock ≠ some gn ∧ gn < W4.heap.size := by
              obtain ⟨c, hc⟩ := HGC.out
              have h1 := HGN.out
              have h2 := HD.out.lt
              have h3 := hw0.size
              refine ⟨by omega, fun e => by have := hlt gn e; omega, lt_of_heap hc⟩
            have q5 : ∀ k, k < (W4.alloc (.cells #[.int .i64 (af : Int), .slice (some ⟨gn, 0, none⟩) m cn] 89)).heap.size → k ≠ b → L.av.ownBlock ≠ some k → (W8.setCell ⟨b, 5, none⟩ (.slice a8 1 c8)).heap[k]? = (W4.alloc (.cells #[.int .i64 (af : Int), .slice (some ⟨gn, 0, none⟩) m cn] 89)).heap[k]? := fun k h1 h2 h3 => (heap_set_ne _ b 5 k _ h2).trans (hg8.block k h1 (fun e => h3 e.symm))
            have hgn6 : (W8.setCell ⟨b, 5, none⟩ (.slice a8 1 c8)).heap[gn]? = W4.heap[gn]? := (q5 gn (by simp; omega) hgn5.1 hgn5.2.1).trans (Below.heap_alloc _ _ _ hgn5.2.2)
            have hown : (W8.setCell ⟨b, 5, none⟩ (.slice a8 1 c8)).ownsRow 0 89 2 (.slice a8 1 c8) 1 [.int .i64 (af : Int), .slice (some ⟨gn, 0, none⟩) m cn] := ownsRow_of_block HO8.out (fun g hg => heap_set_ne _ b 5 g _ (fun e => by
              obtain ⟨c', hc'⟩ := own_type HO8.out hg
              exact ne_ty hc' y1 (by decide) e))
            have hd := HD.out.armed (w' := W8.setCell ⟨b, 5, none⟩ (.slice a8 1 c8)) (v8 := .slice a8 1 c8) (gk := gn) (af := af) (kp := kp) (by rw [z1]; rfl) hown ⟨some ⟨gn, 0, none⟩, cn, by rw [HKL.out], .inr ⟨gn, rfl, rfl, fun j x hj => (World.cell?_of_block (a := ⟨gn, j, none⟩) hgn6).trans (HCL.out j x hj)⟩⟩ (by obtain ⟨c, hc⟩ := HGC.out; exact ⟨c, hgn6.trans hc⟩) (fun k h1 h2 h3 => (q5 k (Nat.lt_of_lt_of_le h1 hw5.size) h2 h3).trans (hw5.block k h1))
            refine ⟨_, hd, fun k hk => ?_, ?_, Nat.le_refl _⟩
            · rcases hk with r | r | r | r | r | r | r
              · exact .inl (.inl r)
              · exact .inl (.inr (.inl r))
              · exact .inl (.inr (.inr (.inl r)))
              · exact .inl (.inr (.inr (.inr (.inl r))))
              · exact .inl (.inr (.inr (.inr (.inr (.inl r)))))
              · rcases HL8.out with e | e
                · rw [e] at r; exact .inl (.inr (.inr (.inr (.inr (.inr (.inl r))))))
                · rw [e] at r; cases r; exact .inr hw5.size
              · have h1 := HGN.out
                have h3 := hw0.size
                have r : k = gn := r
                exact .inr (by omega)
            · exact ((Gr.of_below hw5 : Gr (Foot b L σ) w (W4.alloc (.cells #[.int .i64 (af : Int), .slice (some ⟨gn, 0, none⟩) m cn] 89))).trans (Gr.of_grown (X := Foot b L σ) hg8 (fun k hk => .inl (.inr (.inr (.inr (.inr (.inr (.inl hk)))))))) (fun i h => .inl h)).trans (Gr.set W8 b 5 _ (X := Foot b L σ) (.inl rfl)) (fun i h => .inl h)
        · have HF := hide hF
          clear hF
          go_wp2_with (fail)
          go_ret
          exact ⟨rfl, HF.out⟩
end
end Go.Proofs.Ytgfgihpkbbjkfaa
namespace Go.Proofs.Ytgfgihpkbbjkfaa
open Go.RowKit Go.Shelf
set_option linter.unusedVariables false

/-- A device of a walk's own. -/
structure AtW (w W : World) (b : Nat) (L : Lay) (σ : St) : Prop where
  dev : DevL W b L σ
  ok : σ.Ok
  foot : ∀ k, Foot b L σ k → w.heap.size ≤ k
  bel : Below w.heap.size w W
theorem AtW.step {w W W' : World} {b : Nat} {L L' : Lay} {σ σ' : St} (h : AtW w W b L σ) (hd : DevL W' b L' σ') (hok : σ'.Ok) (hf : ∀ k, Foot b L' σ' k → Foot b L σ k ∨ W.heap.size ≤ k) {X : Nat → Prop} (hX : ∀ k, X k → Foot b L σ k) (hg : Gr X W W') : AtW w W' b L' σ' := by
  refine ⟨hd, hok, fun k hk => ?_, hg.1.trans h.bel.os, hg.2.1.trans h.bel.tape, hg.2.2.1.trans h.bel.output, Nat.le_trans h.bel.size hg.size, fun k hk => (hg.block (Nat.lt_of_lt_of_le hk h.bel.size) (fun hx => by have := h.foot k (hX k hx); omega)).trans (h.bel.block k hk)⟩
  rcases hf k hk with h1 | h1
  · exact h.foot k h1
  · exact Nat.le_trans h.bel.size h1
theorem AtW.below {w W W' : World} {b : Nat} {L : Lay} {σ : St} (h : AtW w W b L σ) (hB : Below W.heap.size W W') : AtW w W' b L σ := ⟨h.dev.below hB, h.ok, h.foot, h.bel.trans (hB.mono h.bel.size)⟩
theorem ok_arms {σ : St} {a : List (Nat × List Nat)} (h : σ.Ok) : ({ σ with arms := a } : St).Ok := ⟨h.pos, h.max, h.len, h.byte, h.out, h.clen, h.cbyte, h.few, h.flp, h.opsm⟩
theorem ok_off {σ : St} {o : Bool} (h : σ.Ok) : ({ σ with off := o } : St).Ok := ⟨h.pos, h.max, h.len, h.byte, h.out, h.clen, h.cbyte, h.few, h.flp, h.opsm⟩
theorem w_from {W2 : World} {g : Nat} {ys : List Nat} (ho : OwnB W2 g ys) (hl : ys.length = 128) (hb : ∀ x ∈ ys, x < 256) : Calls Try.prog 23 #[.slice (some ⟨g, 0, none⟩) 128 128] W2 fun e w' => ∃ b L, e = .returned (.tuple #[.pointer (some ⟨b, 0, none⟩), .int .i64 0]) ∧ AtW W2 w' b L (fromD 2 ys) ∧ L.N = 0 := by
  obtain ⟨ab, ao, e, hlt, hsg⟩ : ∃ ab ao, (some ⟨g, 0, none⟩ : Option Addr) = some ⟨ab, ao, none⟩ ∧ ab < W2.heap.size ∧ Seg W2 ab ao ys := by
    rcases ho.sl hb with h | h
    · rw [h] at hl; simp at hl
    · exact h
  cases e
  refine (pfrom_any W2 g 0 128 128 2 ys hsg hlt hl rfl (by omega) (by omega) hb (by omega)).mono ?_
  rintro e w' ⟨b, L, rfl, h1, h2, h3, h4⟩
  exact ⟨b, L, rfl, ⟨h1, fromD_ok (by omega) (by omega) hl hb, h2, h3⟩, h4⟩
/-- A loss is laid, that waits. -/
theorem w_arm {W2 W4 : World} {b : Nat} {L : Lay} {ys : List Nat} {i k : Nat} (h : AtW W2 W4 b L (fromD 2 ys)) (hN : L.N = 0) (hk : k < 1000) :
    Calls Try.prog 13 #[.pointer (some ⟨b, 0, none⟩), .slice (some ⟨W4.heap.size + 1, 0, none⟩) 1 1] ((W4.alloc (.cells #[.int .i64 (k : Int), .int .i64 (k : Int)] 3)).alloc (.cells #[.int .i64 (1 + (i : Int)), .slice (some ⟨W4.heap.size, 0, none⟩) 2 2] 89)) fun e w' => e = .returned (.int .i64 0) ∧ ∃ L', AtW W2 w' b L' { fromD 2 ys with arms := [(1 + i, [k, k])] } ∧ L'.N = 0 := by
  have hB1 : Below W4.heap.size W4 (W4.alloc (.cells #[.int .i64 (k : Int), .int .i64 (k : Int)] 3)) := (Below.refl _ _).alloc (Nat.le_refl _) _
  have hB2 : Below W4.heap.size W4 ((W4.alloc (.cells #[.int .i64 (k : Int), .int .i64 (k : Int)] 3)).alloc (.cells #[.int .i64 (1 + (i : Int)), .slice (some ⟨W4.heap.size, 0, none⟩) 2 2] 89)) := hB1.alloc (by simp) _
  have h2 := h.below hB2
  have hk1 : (W4.alloc (.cells #[.int .i64 (k : Int), .int .i64 (k : Int)] 3)).heap[W4.heap.size]? = some (.cells #[.int .i64 (k : Int), .int .i64 (k : Int)] 3 (0, 0)) := heap_alloc_new W4 _
  have hk2 : ((W4.alloc (.cells #[.int .i64 (k : Int), .int .i64 (k : Int)] 3)).alloc (.cells #[.int .i64 (1 + (i : Int)), .slice (some ⟨W4.heap.size, 0, none⟩) 2 2] 89)).heap[W4.heap.size]? = some (.cells #[.int .i64 (k : Int), .int .i64 (k : Int)] 3 (0, 0)) := (Below.heap_alloc _ _ _ (by simp)).trans hk1
  have hga : ((W4.alloc (.cells #[.int .i64 (k : Int), .int .i64 (k : Int)] 3)).alloc (.cells #[.int .i64 (1 + (i : Int)), .slice (some ⟨W4.heap.size, 0, none⟩) 2 2] 89)).heap[W4.heap.size + 1]? = some (.cells #[.int .i64 ((1 + i : Nat) : Int), .slice (some ⟨W4.heap.size, 0, none⟩) 2 2] 89 (0, 0)) := by
    have h5 := heap_alloc_new (W4.alloc (.cells #[.int .i64 (k : Int), .int .i64 (k : Int)] 3)) (.cells #[.int .i64 (1 + (i : Int)), .slice (some ⟨W4.heap.size, 0, none⟩) 2 2] 89)
    rw [World.size_alloc] at h5
    rw [show ((1 + i : Nat) : Int) = 1 + (i : Int) by omega]
    exact h5
  have hsn : SlN ((W4.alloc (.cells #[.int .i64 (k : Int), .int .i64 (k : Int)] 3)).alloc (.cells #[.int .i64 (1 + (i : Int)), .slice (some ⟨W4.heap.size, 0, none⟩) 2 2] 89)) (some ⟨W4.heap.size, 0, none⟩) [k, k] := by
    refine ⟨fun x hx => by simp at hx; omega, .inr ⟨_, _, _, _, rfl, hk2, fun j x hj => ?_⟩⟩
    rw [Nat.zero_add, cell8 hk2]
    match j, hj with
    | 0, hj => cases hj; rfl
    | 1, hj => cases hj; rfl
    | n + 2, hj => simp at hj
  refine (parm_one (af := 1 + i) (kp := [k, k]) h2.dev h2.ok rfl rfl (by omega) hga rfl (by omega) (by show 2 ≤ 2; omega) (by omega) hsn (fun e => by have h6 := h.dev.foot_is (.inr (.inr (.inr (.inr (.inr (.inl e)))))); omega)).mono ?_
  rintro e w' ⟨rfl, L', q1, q2, q3, q4⟩
  exact ⟨rfl, L', h2.step q1 (ok_arms h2.ok) q2 (fun k hk => hk) q3, by omega⟩
/-- Publish, and what it leaves. -/
theorem w_pub {W2 W5 : World} {b : Nat} {L : Lay} {ys : List Nat} {i j k v : Nat} (h : AtW W2 W5 b L { fromD 2 ys with arms := [(1 + i, [k, k])] }) (hN : L.N = 0) (hi : i < 4) (hj : j < 16) (hk : k < 1000) (hv : v < 18446744073709551616) :
    Calls Try.prog 59 #[.pointer (some ⟨b, 0, none⟩), .int .i64 (8 * (j : Int)), .int .u64 (v : Int)] W5 fun e w' => ∃ L' s, e = .returned (.int .i64 (if i = 3 then 0 else 5)) ∧ AtW W2 w' b L' s ∧ s.n = 2 ∧ ((i < 3 ∧ s.off = true ∧ (s.bytes = splice ys (8 * j) (leB 8 v) ∨ i < 2 ∧ s.bytes = ys)) ∨ (i = 3 ∧ s.off = false ∧ s.bytes = splice ys (8 * j) (leB 8 v) ∧ ∀ i, s.past i = [])) := by
  have hp := qpubG_any v (8 * j) h.dev h.ok rfl (by rw [hN]; exact Nat.zero_le _) ⟨fun a ha => by cases (List.mem_singleton.1 ha); exact ⟨fun x hx => by simp at hx; omega, by simp⟩, by show 0 < 1400000000000; omega⟩ (by show 0 + _ ≤ _; omega) (by show 0 + _ ≤ _; omega) hv (by omega) (by show 8 * j + 8 ≤ 64 * 2; omega)
  rw [show ((8 * j : Nat) : Int) = 8 * (j : Int) by omega] at hp
  refine hp.mono ?_
  rintro e w' ⟨c, s, rfl, h1, hg, L', hd, hf, _⟩
  obtain ⟨q1, q2, q3⟩ := pub_whole (σ := { fromD 2 ys with arms := [(1 + i, [k, k])] }) (n := 1 + i) h.ok (fun _ => rfl) rfl rfl rfl rfl (by omega) (by omega) (by omega) (by show 8 * j + 8 ≤ 64 * 2; omega) hv h1
  have hA := h.step hd q1 hf (fun k hk => hk) hg
  rcases q3 with ⟨r1, rfl, r2, r3⟩ | ⟨r1, rfl, r2, r3, r4⟩
  · refine ⟨L', s, by rw [if_neg (by omega)], hA, q2, .inl ⟨by omega, r2, r3.imp id (fun h => ⟨by omega, h.2⟩)⟩⟩
  · refine ⟨L', s, by rw [if_pos (by omega)], hA, q2, .inr ⟨by omega, r2, r3, r4⟩⟩
end Go.Proofs.Ytgfgihpkbbjkfaa
namespace Go.Proofs.Ytgfgihpkbbjkfaa
open Go.RowKit Go.Shelf
set_option linter.unusedVariables false

theorem cut_to (g o len cap m : Nat) (hm : m ≤ len) (hl : len ≤ cap) (w : World) : (Instr.sliceAt 33 (.slice (some ⟨g, o, none⟩) len cap) none (some (.int .i64 (m : Int))) none).run Try.prog w = .ok (.slice (some ⟨g, o, none⟩) m cap) w := by
  obtain ⟨i0, hi, hz0, hz1, hz2⟩ := info_parts Try.info5
  have hc2 : m ≤ cap := by omega
  simp [Instr.sliceAt, Instr.slice, Sem.run_bind, run_underlying Try.underlying33, Instr.sliceBounds, Instr.sliceBound, asIntOf, sizeOf, typeInfo, hi, Addr.add_mid, hc2]
theorem w_image {W2 W : World} {b : Nat} {L : Lay} {s : St} (h : AtW W2 W b L s) (hn : s.n = 2) : Calls Try.prog 7 #[.pointer (some ⟨b, 0, none⟩)] W fun e w' => e = .returned (.slice (some ⟨W.heap.size, 0, none⟩) 128 128) ∧ OwnB w' W.heap.size s.bytes ∧ Below W.heap.size W w' := by
  have h1 := pimg_any h.dev h.ok
  rw [hn] at h1
  exact h1
theorem w_wake {W2 W : World} {b : Nat} {L : Lay} {s : St} (h : AtW W2 W b L s) (ho : s.off = true) : Calls Try.prog 17 #[.pointer (some ⟨b, 0, none⟩)] W fun e w' => e = .returned (.int .i64 0) ∧ AtW W2 w' b L { s with off := false } := by
  refine (pwake_off h.dev ho).mono ?_
  rintro e w' ⟨rfl, hw, hd⟩
  exact ⟨rfl, h.step hd (ok_off h.ok) (fun k hk => .inl hk) (X := fun k => k = b) (fun k hk => .inl hk) (by rw [hw]; exact Gr.set W b 7 _ rfl)⟩
theorem w_crash {W2 W : World} {b : Nat} {L : Lay} {s : St} {k : Nat} (h : AtW W2 W b L s) (hk : k < 1000) (ho : s.off = false) (hp : ∀ i, s.past i = []) : Calls Try.prog 44 #[.pointer (some ⟨b, 0, none⟩), .slice (some ⟨W.heap.size, 0, none⟩) 2 2] (W.alloc (.cells #[.int .i64 (k : Int), .int .i64 (k : Int)] 3)) fun e w' => e = .returned (.int .i64 0) ∧ ∃ L' s', AtW W2 w' b L' s' ∧ s'.n = s.n ∧ s'.off = true ∧ s'.bytes = s.bytes := by
  have hB : Below W.heap.size W (W.alloc (.cells #[.int .i64 (k : Int), .int .i64 (k : Int)] 3)) := (Below.refl _ _).alloc (Nat.le_refl _) _
  have h2 := h.below hB
  have hk2 : (W.alloc (.cells #[.int .i64 (k : Int), .int .i64 (k : Int)] 3)).heap[W.heap.size]? = some (.cells #[.int .i64 (k : Int), .int .i64 (k : Int)] 3 (0, 0)) := heap_alloc_new W _
  have hsn : SlN (W.alloc (.cells #[.int .i64 (k : Int), .int .i64 (k : Int)] 3)) (some ⟨W.heap.size, 0, none⟩) [k, k] := by
    refine ⟨fun x hx => by simp at hx; omega, .inr ⟨_, _, _, _, rfl, hk2, fun j x hj => ?_⟩⟩
    rw [Nat.zero_add, cell8 hk2]
    match j, hj with
    | 0, hj => cases hj; rfl
    | 1, hj => cases hj; rfl
    | n + 2, hj => simp at hj
  refine (pcrash_any (kp := [k, k]) 2 h2.dev h2.ok ho hsn (by simp)).mono ?_
  rintro e w' ⟨rfl, L', s', q1, q2, q3, q4, _⟩
  exact ⟨rfl, L', s', h2.step q2 (Lost.ok h2.ok q1) q3 (fun k hk => hk.elim (fun e => .inl e) (fun e => .inr (.inl e))) q4, q1.n, q1.off, lost_none h2.ok.len hp q1⟩
theorem wpAnyH_go {P : Program} {ops : Array Oper} {Q : Exit → Act → World → Prop} {md : Region.Mode} {S : World → Prop} {i : Nat} {o : Oper} {fuel : Nat} {listed : Array Bool} {a : Act} {w : World} (hr : Region.ready md ops listed = [i]) (ho : ops[i]? = some o) (hw : Region.wanted o (yielded ops a.tmps) = true)
    (h : ∀ K' : Act → World → Prop, Shut (∀ a w, wpAnyH P md ops Q S fuel (listed.setIfInBounds i true) a w → K' a w) → Oper.wp P o a w K' Q) (hT : ∀ w, S w) : wpAnyH P md ops Q S (fuel + 1) listed a w := by
  refine wpAnyH_ready (rs := [i]) hr (by simp) (AllReadyH.cons ho (fun K hK => ?_) AllReadyH.nil)
  rw [if_pos hw]
  exact h K (fun a w hq => hK a w (hT w) (fun _ => hq))
theorem cut_from (g j : Nat) (hj : j < 16) (ys : List Nat) (hl : ys.length = 128) (hb : ∀ x ∈ ys, x < 256) : ∃ ad : Addr, (∀ w : World, (Instr.sliceAt 33 (.slice (some ⟨g, 0, none⟩) 128 128) (some (.int .i64 (8 * (j : Int) + 8))) none none).run Try.prog w = .ok (.slice (some ad) (128 - (8 * j + 8)) (128 - (8 * j + 8))) w) ∧ ∀ W, OwnB W g ys → Sl W (some ad) (ys.drop (8 * j + 8)) := by
  obtain ⟨i0, hi, hz0, hz1, hz2⟩ := info_parts Try.info5
  by_cases h15 : j = 15
  · subst h15
    refine ⟨⟨g, 0, none⟩, fun w => ?_, fun W h => .inl ?_⟩
    · simp [Instr.sliceAt, Instr.slice, Sem.run_bind, run_underlying Try.underlying33, Instr.sliceBounds, Instr.sliceBound, asIntOf, sizeOf, typeInfo, hi, Addr.add_mid]
    · exact List.drop_of_length_le (by omega)
  · refine ⟨⟨g, 8 * j + 8, none⟩, fun w => ?_, fun W h => ?_⟩
    · have e := slice_bytes g 0 (8 * j + 8) 128 128 (by omega) (by omega) w
      rw [Nat.zero_add, show ((8 * j + 8 : Nat) : Int) = 8 * (j : Int) + 8 by omega] at e
      exact e
    · refine .inr ⟨g, 8 * j + 8, rfl, h.lt, fun i x hx => ?_⟩
      rw [List.getElem?_drop] at hx
      exact ⟨h.cell _ _ hx, hb x (List.mem_of_getElem? hx)⟩
theorem cut_at (g j : Nat) (hj : j < 16) (w : World) : (Instr.sliceAt 33 (.slice (some ⟨g, 0, none⟩) 128 128) none (some (.int .i64 (8 * (j : Int)))) none).run Try.prog w = .ok (.slice (some ⟨g, 0, none⟩) (8 * j) 128) w := by
  have e := cut_to g 0 128 128 (8 * j) (by omega) (by omega) w
  rwa [show ((8 * j : Nat) : Int) = 8 * (j : Int) by omega] at e
theorem front_sl {W : World} {g j : Nat} {ys : List Nat} (h : OwnB W g ys) (hb : ∀ x ∈ ys, x < 256) : Sl W (some ⟨g, 0, none⟩) (ys.take (8 * j)) := by
  refine .inr ⟨g, 0, rfl, h.lt, fun i x hx => ?_⟩
  rw [List.getElem?_take] at hx
  split at hx
  · rw [Nat.zero_add]
    exact ⟨h.cell _ _ hx, hb x (List.mem_of_getElem? hx)⟩
  · cases hx
theorem w_eq {W : World} {g : Nat} {sb ws : List Nat} {aw : Option Addr} {cw n : Nat} (h : OwnB W g sb) (hl : sb.length = 128) (hb : ∀ x ∈ sb, x < 256) (hw : Sl W aw ws) (hn : ws.length = n) : Calls Try.prog 22 #[.slice (some ⟨g, 0, none⟩) 128 128, .slice aw n cw] W fun e w' => e = .returned (.bool (decide (sb = ws))) ∧ ∃ q, w' = W.drewN q := by
  have h5 := eqBytes_any (some ⟨g, 0, none⟩) aw 128 cw sb ws W (h.sl hb) hw (by omega)
  rw [hl, hn] at h5
  exact h5
end Go.Proofs.Ytgfgihpkbbjkfaa
namespace Go.Proofs.Ytgfgihpkbbjkfaa
open Go.RowKit Go.Shelf
set_option linter.unusedVariables false
set_option maxRecDepth 100000

/-- A log lies at block g: on the device at b, from a on, of z bytes. -/
def LogL (w : World) (g b a z : Nat) : Prop := w.heap[g]? = some (.cells #[.pointer (some ⟨g, 0, none⟩), .pointer (some ⟨b, 0, none⟩), .int .i64 (a : Int), .int .i64 (z : Int)] 82 (0, 0))
theorem log_nd : NDt 82 := ⟨by decide, by decide, by decide, by decide, by decide, by decide⟩
theorem byte_nd : NDt 5 := ⟨by decide, by decide, by decide, by decide, by decide, by decide⟩
section
variable {w w' : World} {g b a z : Nat}
theorem LogL.c0 (h : LogL w g b a z) : w.cell? ⟨g, 0, none⟩ = some (.pointer (some ⟨g, 0, none⟩)) := cell8 h 0
theorem LogL.c1 (h : LogL w g b a z) : w.cell? ⟨g, 1, none⟩ = some (.pointer (some ⟨b, 0, none⟩)) := cell8 h 1
theorem LogL.c2 (h : LogL w g b a z) : w.cell? ⟨g, 2, none⟩ = some (.int .i64 (a : Int)) := cell8 h 2
theorem LogL.c3 (h : LogL w g b a z) : w.cell? ⟨g, 3, none⟩ = some (.int .i64 (z : Int)) := cell8 h 3
theorem LogL.below (h : LogL w g b a z) (hB : Below w.heap.size w w') : LogL w' g b a z := (hB.block g (lt_of_heap h)).trans h
theorem LogL.drew (h : LogL w g b a z) : LogL w.drew g b a z := h
theorem LogL.atd {L : Lay} {σ s : St} {m : Nat} (h : LogL w g b a z) (hd : DevL w b L σ) (ha : Atd w b L σ w' s m) : LogL w' g b a z := ha.kept hd h log_nd
theorem OwnB.atd {L : Lay} {σ s : St} {m R : Nat} {bs : List Nat} (h : OwnB w R bs) (hd : DevL w b L σ) (ha : Atd w b L σ w' s m) : OwnB w' R bs := ha.kept hd h byte_nd
theorem neq_log (a : Addr) (w : World) : (binOp .neq 29 (.pointer (some a)) (.pointer (some a))).run Try.prog w = .ok (.bool false) w := by
  have h : ∀ d : Nat, (Op.equalIn (d + 1) 29 (.pointer (some a)) (.pointer (some a))).run Try.prog w = .ok true w := fun d => by
    simp [Op.equalIn, run_underlying (show Try.prog.underlying 29 = some (.pointer 82) by kernel_rfl), run_sameAddr_same]
  simp only [binOp]
  simp [Op.equal, Op.maxDepth, h 9999]
theorem lnone_any (h : LogL w g b a z) : Calls Try.prog 51 #[.pointer (some ⟨g, 0, none⟩)] w fun e w' => e = .returned (.bool false) ∧ w' = w := by
  have c0 := h.c0
  have hq := neq_log ⟨g, 0, none⟩ w
  clear h
  go_enter Try.func51, Try.ntmps51
  go_wp2
  go_ret
  exact ⟨rfl, rfl⟩
theorem lroom_any (h : LogL w g b a z) (ha : a ≤ 4194304) : Calls Try.prog 33 #[.pointer (some ⟨g, 0, none⟩)] w fun e w' => e = .returned (.int .i64 ((a + 64 : Nat) : Int)) ∧ w' = w := by
  have c2 := h.c2
  have wm : IntKind.i64.wrap ((a : Int) + 64) = ((a + 64 : Nat) : Int) := by rw [IntKind.wrap_i64]; omega
  clear h
  go_enter Try.func33, Try.ntmps33
  go_wp2
  go_ret
  exact ⟨rfl, rfl⟩
theorem lend_any (h : LogL w g b a z) (ha : a + z ≤ 4194304) : Calls Try.prog 55 #[.pointer (some ⟨g, 0, none⟩)] w fun e w' => e = .returned (.int .i64 ((a + z : Nat) : Int)) ∧ w' = w.drew := by
  have WM := hide (show IntKind.i64.wrap ((a : Int) + (z : Int)) = ((a + z : Nat) : Int) by rw [IntKind.wrap_i64]; omega)
  have H := hide h
  clear h
  go_enter Try.func55, Try.ntmps55
  go_wp2
  refine wp_region_held_drew (S := fun Y => Y = w.drew) (by kernel_rfl) rfl (fun hS => ?_)
  refine wpAnyH_take (i := 0) (v := (.pointer (some ⟨g, 0, none⟩))) rfl (by kernel_rfl) (by kernel_rfl) (by kernel_rfl) (fun _ _ _ h => h) (Or.inl ⟨by kernel_rfl, fun w' hw => by (go_simp)⟩) hS ?_
  refine wpAnyH_take (i := 1) (v := (.pointer (some ⟨g, 0, none⟩))) rfl (by kernel_rfl) (by kernel_rfl) (by kernel_rfl) (fun _ _ _ h => h) (Or.inl ⟨by kernel_rfl, fun w' hw => by (go_simp)⟩) hS ?_
  refine wpAnyH_take (i := 2) (v := (.pointer (some ⟨g, 2, none⟩))) rfl (by kernel_rfl) (by kernel_rfl) (by kernel_rfl) (fun _ _ _ h => h) (Or.inl ⟨by kernel_rfl, fun w' hw => by (go_simp)⟩) hS ?_
  refine wpAnyH_take (i := 3) (v := (.int .i64 (a : Int))) rfl (by kernel_rfl) (by kernel_rfl) (by kernel_rfl) (fun _ _ _ h => h) (Or.inl ⟨by kernel_rfl, fun w' hw => by (have z2 := H.out.drew.c2; have e : w' = w.drew := hw; rw [e]; go_simp)⟩) hS ?_
  refine wpAnyH_take (i := 4) (v := (.pointer (some ⟨g, 0, none⟩))) rfl (by kernel_rfl) (by kernel_rfl) (by kernel_rfl) (fun _ _ _ h => h) (Or.inl ⟨by kernel_rfl, fun w' hw => by (go_simp)⟩) hS ?_
  refine wpAnyH_take (i := 5) (v := (.pointer (some ⟨g, 0, none⟩))) rfl (by kernel_rfl) (by kernel_rfl) (by kernel_rfl) (fun _ _ _ h => h) (Or.inl ⟨by kernel_rfl, fun w' hw => by (go_simp)⟩) hS ?_
  refine wpAnyH_take (i := 6) (v := (.pointer (some ⟨g, 3, none⟩))) rfl (by kernel_rfl) (by kernel_rfl) (by kernel_rfl) (fun _ _ _ h => h) (Or.inl ⟨by kernel_rfl, fun w' hw => by (go_simp)⟩) hS ?_
  refine wpAnyH_take (i := 7) (v := (.int .i64 (z : Int))) rfl (by kernel_rfl) (by kernel_rfl) (by kernel_rfl) (fun _ _ _ h => h) (Or.inl ⟨by kernel_rfl, fun w' hw => by (have z3 := H.out.drew.c3; have e : w' = w.drew := hw; rw [e]; go_simp)⟩) hS ?_
  refine wpAnyH_take (i := 8) (v := (.int .i64 ((a + z : Nat) : Int))) rfl (by kernel_rfl) (by kernel_rfl) (by kernel_rfl) (fun _ _ _ h => h) (Or.inl ⟨by kernel_rfl, fun w' hw => by (have wm := WM.out; go_simp)⟩) hS ?_
  refine wpAnyH_take (i := 9) (v := (.int .i64 ((a + z : Nat) : Int))) rfl (by kernel_rfl) (by kernel_rfl) (by kernel_rfl) (fun _ _ _ h => h) (Or.inl ⟨by kernel_rfl, fun w' hw => by (go_simp)⟩) hS ?_
  refine wpAnyH_done (by kernel_rfl) ?_ _
  simp only [Act.put, List.getElem_toArray, List.getElem_cons_zero, List.getElem_cons_succ, List.setIfInBounds_toArray, List.set_cons_zero, List.set_cons_succ]
  go_wp2_with (fail)
  go_ret
  exact ⟨rfl, rfl⟩
/-- How many records the log says that it has. -/
theorem lnumber_any {L : Lay} {σ : St} (h : LogL w g b a z) (hd : Dv w b L σ) (ha8 : a % 8 = 0) (hal : a + 8 ≤ 64 * σ.n) : Calls Try.prog 29 #[.pointer (some ⟨g, 0, none⟩)] w fun e w' => e = .returned (.tuple #[.int .u64 ((leV ((σ.bytes.drop a).take 8) : Nat) : Int), .int .i64 0]) ∧ Below w.heap.size w w' := by
  have hmx := hd.ok.max
  have kw : ∀ W, Below w.heap.size w W → Calls Try.prog 52 #[.pointer (some ⟨b, 0, none⟩), .int .i64 (a : Int)] W fun e w' => e = .returned (.tuple #[.int .u64 ((leV ((σ.bytes.drop a).take 8) : Nat) : Int), .int .i64 0]) ∧ Below W.heap.size W w' := fun W hB => by
    exact qword (w := W) (p := some ⟨b, 0, none⟩) (a : Int) (by omega) (by omega) ((σ.bytes.drop a).take 8) (by rw [List.length_take, List.length_drop, hd.ok.len]; omega) (fun y hy => hd.ok.byte y (List.mem_of_mem_drop (List.mem_of_mem_take hy))) (fun X hX => (dv_load (at_ := a) (n := 8) ((hd.below hB).below hX) hal).mono fun e w' ⟨R, q1, _, q3, q4⟩ => ⟨R, q1, q3, q4⟩)
  generalize leV ((σ.bytes.drop a).take 8) = v at *
  have KN := hide (lnone_any h)
  have KW := hide kw
  have H := hide h
  clear h hd kw hmx
  go_enter Try.func29, Try.ntmps29
  go_wp2_with (go_at_call 51; refine (KN.out).mono ?_; rintro e w' ⟨rfl, hw⟩; obtain rfl := hw.symm)
  refine wp_region_held_drew (S := fun Y => LogL Y g b a z) (by kernel_rfl) H.out.drew (fun hS => ?_)
  refine wpAnyH_take (i := 0) (v := (.pointer (some ⟨g, 0, none⟩))) rfl (by kernel_rfl) (by kernel_rfl) (by kernel_rfl) (fun _ _ _ h => h) (Or.inl ⟨by kernel_rfl, fun w' hw => by (go_simp)⟩) hS ?_
  refine wpAnyH_take (i := 1) (v := (.pointer (some ⟨g, 0, none⟩))) rfl (by kernel_rfl) (by kernel_rfl) (by kernel_rfl) (fun _ _ _ h => h) (Or.inl ⟨by kernel_rfl, fun w' hw => by (go_simp)⟩) hS ?_
  refine wpAnyH_take (i := 2) (v := (.pointer (some ⟨g, 1, none⟩))) rfl (by kernel_rfl) (by kernel_rfl) (by kernel_rfl) (fun _ _ _ h => h) (Or.inl ⟨by kernel_rfl, fun w' hw => by (go_simp)⟩) hS ?_
  refine wpAnyH_take (i := 3) (v := (.pointer (some ⟨b, 0, none⟩))) rfl (by kernel_rfl) (by kernel_rfl) (by kernel_rfl) (fun _ _ _ h => h) (Or.inl ⟨by kernel_rfl, fun w' hw => by (have z1 := LogL.c1 hw; have z2 := LogL.c2 hw; have z3 := LogL.c3 hw; go_simp)⟩) hS ?_
  refine wpAnyH_take (i := 4) (v := (.pointer (some ⟨g, 0, none⟩))) rfl (by kernel_rfl) (by kernel_rfl) (by kernel_rfl) (fun _ _ _ h => h) (Or.inl ⟨by kernel_rfl, fun w' hw => by (go_simp)⟩) hS ?_
  refine wpAnyH_take (i := 5) (v := (.pointer (some ⟨g, 0, none⟩))) rfl (by kernel_rfl) (by kernel_rfl) (by kernel_rfl) (fun _ _ _ h => h) (Or.inl ⟨by kernel_rfl, fun w' hw => by (go_simp)⟩) hS ?_
  refine wpAnyH_take (i := 6) (v := (.pointer (some ⟨g, 2, none⟩))) rfl (by kernel_rfl) (by kernel_rfl) (by kernel_rfl) (fun _ _ _ h => h) (Or.inl ⟨by kernel_rfl, fun w' hw => by (go_simp)⟩) hS ?_
  refine wpAnyH_take (i := 7) (v := (.int .i64 (a : Int))) rfl (by kernel_rfl) (by kernel_rfl) (by kernel_rfl) (fun _ _ _ h => h) (Or.inl ⟨by kernel_rfl, fun w' hw => by (have z1 := LogL.c1 hw; have z2 := LogL.c2 hw; have z3 := LogL.c3 hw; go_simp)⟩) hS ?_
  refine wpAnyH_goS (i := 8) (by kernel_rfl) rfl (by kernel_rfl) (fun K hK => ?_)
  go_wp2_with (go_at_call 52; refine (KW.out _ (Below.refl _ w).drew).mono ?_; rintro e W1 ⟨rfl, hB⟩; have HB := hide (bseq (Below.refl _ w).drew hB); clear hB)
  have hS2 := H.out.below HB.out
  refine hK.out _ _ hS2 ?_
  clear hK K
  refine wpAnyH_take (i := 9) (v := (.int .u64 (v : Int))) rfl (by kernel_rfl) (by kernel_rfl) (by kernel_rfl) (fun _ _ _ h => h) (Or.inl ⟨by kernel_rfl, fun w' hw => by (go_simp)⟩) hS2 ?_
  refine wpAnyH_take (i := 10) (v := (.int .i64 0)) rfl (by kernel_rfl) (by kernel_rfl) (by kernel_rfl) (fun _ _ _ h => h) (Or.inl ⟨by kernel_rfl, fun w' hw => by (go_simp)⟩) hS2 ?_
  refine wpAnyH_take (i := 11) (v := (.int .u64 (v : Int))) rfl (by kernel_rfl) (by kernel_rfl) (by kernel_rfl) (fun _ _ _ h => h) (Or.inl ⟨by kernel_rfl, fun w' hw => by (go_simp)⟩) hS2 ?_
  refine wpAnyH_take (i := 12) (v := (.int .i64 0)) rfl (by kernel_rfl) (by kernel_rfl) (by kernel_rfl) (fun _ _ _ h => h) (Or.inl ⟨by kernel_rfl, fun w' hw => by (go_simp)⟩) hS2 ?_
  refine wpAnyH_done (by kernel_rfl) ?_ _
  simp only [Act.put, List.getElem_toArray, List.getElem_cons_zero, List.getElem_cons_succ, List.setIfInBounds_toArray, List.set_cons_zero, List.set_cons_succ]
  go_wp2_with (fail)
  go_ret2
  exact ⟨rfl, HB.out⟩
theorem lpub_any {L : Lay} {σ : St} (n : Nat) (h : LogL w g b a z) (hd : Dv w b L σ) (hops : σ.ops + 4000000 ≤ 1400000000000) (hn : n ≤ 9223372036854775807) (ha8 : a % 8 = 0) (hal : a + 8 ≤ 64 * σ.n) : Calls Try.prog 34 #[.pointer (some ⟨g, 0, none⟩), .int .i64 (n : Int)] w fun e w' => ∃ c s, e = .returned (.int .i64 c) ∧ RunD (pubF n a) σ c s ∧ Atd w b L σ w' s (pubF n a).length := by
  have CV := hide (show IntKind.u64.wrap (n : Int) = (n : Int) by rw [IntKind.wrap_u64]; omega)
  have HLOG := hide (fun (W1 : World) (c : Int) (s : St) (hp : RunD (pubF n a) σ c s ∧ Atd w.drew b L σ W1 s (pubF n a).length) => h.drew.atd (hd.below (w' := w.drew) (Below.refl _ w).drew).dev hp.2)
  have KP := hide (dv_pub n a (hd.below (w' := w.drew) (Below.refl _ w).drew) hops (by omega) ha8 hal)
  have H := hide h
  clear h hd
  go_enter Try.func34, Try.ntmps34
  go_wp2
  refine wp_region_held_drew (S := fun Y => LogL Y g b a z) (by kernel_rfl) H.out.drew (fun hS => ?_)
  refine wpAnyH_take (i := 0) (v := (.pointer (some ⟨g, 0, none⟩))) rfl (by kernel_rfl) (by kernel_rfl) (by kernel_rfl) (fun _ _ _ h => h) (Or.inl ⟨by kernel_rfl, fun w' hw => by (go_simp)⟩) hS ?_
  refine wpAnyH_take (i := 1) (v := (.pointer (some ⟨g, 0, none⟩))) rfl (by kernel_rfl) (by kernel_rfl) (by kernel_rfl) (fun _ _ _ h => h) (Or.inl ⟨by kernel_rfl, fun w' hw => by (go_simp)⟩) hS ?_
  refine wpAnyH_take (i := 2) (v := (.pointer (some ⟨g, 1, none⟩))) rfl (by kernel_rfl) (by kernel_rfl) (by kernel_rfl) (fun _ _ _ h => h) (Or.inl ⟨by kernel_rfl, fun w' hw => by (go_simp)⟩) hS ?_
  refine wpAnyH_take (i := 3) (v := (.pointer (some ⟨b, 0, none⟩))) rfl (by kernel_rfl) (by kernel_rfl) (by kernel_rfl) (fun _ _ _ h => h) (Or.inl ⟨by kernel_rfl, fun w' hw => by (have z1 := LogL.c1 hw; have z2 := LogL.c2 hw; have z3 := LogL.c3 hw; go_simp)⟩) hS ?_
  refine wpAnyH_take (i := 4) (v := (.pointer (some ⟨g, 0, none⟩))) rfl (by kernel_rfl) (by kernel_rfl) (by kernel_rfl) (fun _ _ _ h => h) (Or.inl ⟨by kernel_rfl, fun w' hw => by (go_simp)⟩) hS ?_
  refine wpAnyH_take (i := 5) (v := (.pointer (some ⟨g, 0, none⟩))) rfl (by kernel_rfl) (by kernel_rfl) (by kernel_rfl) (fun _ _ _ h => h) (Or.inl ⟨by kernel_rfl, fun w' hw => by (go_simp)⟩) hS ?_
  refine wpAnyH_take (i := 6) (v := (.pointer (some ⟨g, 2, none⟩))) rfl (by kernel_rfl) (by kernel_rfl) (by kernel_rfl) (fun _ _ _ h => h) (Or.inl ⟨by kernel_rfl, fun w' hw => by (go_simp)⟩) hS ?_
  refine wpAnyH_take (i := 7) (v := (.int .i64 (a : Int))) rfl (by kernel_rfl) (by kernel_rfl) (by kernel_rfl) (fun _ _ _ h => h) (Or.inl ⟨by kernel_rfl, fun w' hw => by (have z1 := LogL.c1 hw; have z2 := LogL.c2 hw; have z3 := LogL.c3 hw; go_simp)⟩) hS ?_
  refine wpAnyH_take (i := 8) (v := (.int .i64 (n : Int))) rfl (by kernel_rfl) (by kernel_rfl) (by kernel_rfl) (fun _ _ _ h => h) (Or.inl ⟨by kernel_rfl, fun w' hw => by (go_simp)⟩) hS ?_
  refine wpAnyH_take (i := 9) (v := (.int .u64 (n : Int))) rfl (by kernel_rfl) (by kernel_rfl) (by kernel_rfl) (fun _ _ _ h => h) (Or.inl ⟨by kernel_rfl, fun w' hw => by (have wm := CV.out; go_simp)⟩) hS ?_
  refine wpAnyH_goS (i := 10) (by kernel_rfl) rfl (by kernel_rfl) (fun K hK => ?_)
  go_wp2_with (go_at_call 59; refine (KP.out).mono ?_; rintro e W1 ⟨c, s, rfl, hp⟩; have HP := hide hp; clear hp)
  have hS2 := HLOG.out W1 c s HP.out
  refine hK.out _ _ hS2 ?_
  clear hK K
  refine wpAnyH_take (i := 11) (v := (.int .i64 c)) rfl (by kernel_rfl) (by kernel_rfl) (by kernel_rfl) (fun _ _ _ h => h) (Or.inl ⟨by kernel_rfl, fun w' hw => by (go_simp)⟩) hS2 ?_
  refine wpAnyH_done (by kernel_rfl) ?_ _
  simp only [Act.put, List.getElem_toArray, List.getElem_cons_zero, List.getElem_cons_succ, List.setIfInBounds_toArray, List.set_cons_zero, List.set_cons_succ]
  go_wp2_with (fail)
  go_ret
  obtain ⟨h1, h2⟩ := HP.out
  exact ⟨c, s, rfl, h1, h2.base (Below.refl _ w).drew⟩
end
end Go.Proofs.Ytgfgihpkbbjkfaa
namespace Go.Proofs.Ytgfgihpkbbjkfaa
open Go.RowKit
set_option linter.unusedVariables false

/-- The least multiple, and the error's number. -/
def roundV (n to : Int) : Int × Int :=
  if n < 0 ∨ to < 1 then (0, 2) else if n % to = 0 then (n, 0)
  else if 9223372036854775807 - (to - n % to) < n then (0, 2) else (n + (to - n % to), 0)

theorem roundP_bad (n to : Int) (h : n < 0 ∨ to < 1) (w : World) :
    Calls Try.prog 72 #[.int .i64 n, .int .i64 to] w fun e w' => e = .returned (.tuple #[.int .i64 0, .int .i64 2]) ∧ w' = w := by
  by_cases h1 : n < 0
  · go_enter Try.func72, Try.ntmps72
    go_wp2
    go_ret2
    exact ⟨rfl, rfl⟩
  · have h2 : to < 1 := by omega
    have h3 : 0 ≤ n := by omega
    go_enter Try.func72, Try.ntmps72
    go_wp2
    go_ret2
    exact ⟨rfl, rfl⟩

theorem roundP_zero (n to : Int) (h1 : 0 ≤ n) (h2 : 1 ≤ to) (h3 : n ≤ 9223372036854775807) (h4 : to ≤ 9223372036854775807) (hr : (n % to == 0) = true) (w : World) :
    Calls Try.prog 72 #[.int .i64 n, .int .i64 to] w fun e w' => e = .returned (.tuple #[.int .i64 n, .int .i64 0]) ∧ w' = w := by
  go_enter Try.func72, Try.ntmps72
  go_wp2
  go_ret2
  exact ⟨rfl, rfl⟩

theorem roundP_over (n to : Int) (h1 : 0 ≤ n) (h2 : 1 ≤ to) (h3 : n ≤ 9223372036854775807) (h4 : to ≤ 9223372036854775807) (hr : (n % to == 0) = false)
    (r0 : 0 ≤ n % to) (r1 : n % to < to) (ho : 9223372036854775807 - (to - n % to) < n) (w : World) :
    Calls Try.prog 72 #[.int .i64 n, .int .i64 to] w fun e w' => e = .returned (.tuple #[.int .i64 0, .int .i64 2]) ∧ w' = w := by
  go_enter Try.func72, Try.ntmps72
  go_wp2
  go_ret2
  exact ⟨rfl, rfl⟩

theorem roundP_up (n to : Int) (h1 : 0 ≤ n) (h2 : 1 ≤ to) (h3 : n ≤ 9223372036854775807) (h4 : to ≤ 9223372036854775807) (hr : (n % to == 0) = false)
    (r0 : 0 ≤ n % to) (r1 : n % to < to) (ho : n ≤ 9223372036854775807 - (to - n % to)) (w : World) :
    Calls Try.prog 72 #[.int .i64 n, .int .i64 to] w fun e w' => e = .returned (.tuple #[.int .i64 (n + (to - n % to)), .int .i64 0]) ∧ w' = w := by
  go_enter Try.func72, Try.ntmps72
  go_wp2
  go_ret2
  exact ⟨rfl, rfl⟩

theorem roundP_any (n to : Int) (h3 : n ≤ 9223372036854775807) (h4 : to ≤ 9223372036854775807) (w : World) :
    Calls Try.prog 72 #[.int .i64 n, .int .i64 to] w fun e w' => e = .returned (.tuple #[.int .i64 (roundV n to).1, .int .i64 (roundV n to).2]) ∧ w' = w := by
  unfold roundV
  by_cases h : n < 0 ∨ to < 1
  · rw [if_pos h]; exact roundP_bad n to h w
  · rw [if_neg h]
    have h1 : 0 ≤ n := by omega
    have h2 : 1 ≤ to := by omega
    by_cases hr : n % to = 0
    · rw [if_pos hr]; exact roundP_zero n to h1 h2 h3 h4 (by simpa using hr) w
    · rw [if_neg hr]
      have r0 := Int.emod_nonneg n (show to ≠ 0 by omega)
      have r1 := Int.emod_lt_of_pos n (show 0 < to by omega)
      by_cases ho : 9223372036854775807 - (to - n % to) < n
      · rw [if_pos ho]; exact roundP_over n to h1 h2 h3 h4 (by simpa using hr) r0 r1 ho w
      · rw [if_neg ho]; exact roundP_up n to h1 h2 h3 h4 (by simpa using hr) r0 r1 (by omega) w

end Go.Proofs.Ytgfgihpkbbjkfaa
namespace Go.Proofs.Ytgfgihpkbbjkfaa
open Go.RowKit Go.Shelf
set_option linter.unusedVariables false
set_option maxRecDepth 100000

theorem row_keepU {W W' : World} {B : Nat} {o : Obj} (h : W.heap[B]? = some o) (hB : Below W.heap.size W W') : W'.heap[B]? = some o := by
  rw [hB.block _ (Array.getElem?_eq_some_iff.1 h).1]
  exact h
def wthV (x l f t : Int) : Bool := decide (f ≤ x ∧ 1 ≤ l ∧ l ≤ t - x)
theorem lwithin_any (x l f t : Int) (w : World) (hx : -9223372036854775808 ≤ x ∧ x ≤ 9223372036854775807) (hl : -9223372036854775808 ≤ l ∧ l ≤ 9223372036854775807) (hf : 0 ≤ f) (ht : 0 ≤ t) (ht' : t ≤ 9223372036854775807) :
    Calls Try.prog 71 #[.agg #[.int .i64 x, .int .i64 l], .int .i64 f, .int .i64 t] w fun e w' => e = .returned (.bool (wthV x l f t)) ∧ Below w.heap.size w w' := by
  have hA : Below w.heap.size w (w.alloc (.cells #[.int .i64 x, .int .i64 l] 52)) := (Below.refl _ w).alloc (Nat.le_refl _) _
  have HA := hide hA
  clear hA
  by_cases h1 : f ≤ x
  · have wm : IntKind.i64.wrap (t - x) = t - x := by rw [IntKind.wrap_i64]; omega
    by_cases h2 : 1 ≤ l
    · by_cases h3 : l ≤ t - x
      · have hv : wthV x l f t = true := decide_eq_true ⟨h1, h2, h3⟩
        rw [hv]
        go_enter Try.func71, Try.ntmps71
        go_wp2
        go_ret
        exact ⟨rfl, HA.out⟩
      · have hv : wthV x l f t = false := decide_eq_false (fun h => h3 h.2.2)
        rw [hv]
        go_enter Try.func71, Try.ntmps71
        go_wp2
        go_ret
        exact ⟨rfl, HA.out⟩
    · have hv : wthV x l f t = false := decide_eq_false (fun h => h2 h.2.1)
      rw [hv]
      go_enter Try.func71, Try.ntmps71
      go_wp2
      go_ret
      exact ⟨rfl, HA.out⟩
  · have hv : wthV x l f t = false := decide_eq_false (fun h => h1 h.1)
    rw [hv]
    go_enter Try.func71, Try.ntmps71
    go_wp2
    go_ret
    exact ⟨rfl, HA.out⟩
/-- May an extent be? -/
def mayV (a z N : Nat) (x l : Int) : Bool := wthV x l 64 (a : Int) || wthV x l ((a + z : Nat) : Int) ((64 * N : Nat) : Int)
set_option maxHeartbeats 400000 in
theorem lmay_any {w : World} {g b a z : Nat} {L : Lay} {σ : St} (x l : Int) (h : LogL w g b a z) (hd : DevL w b L σ) (hmx : σ.n ≤ 65536) (haz : a + z ≤ 4194304) (hx : -9223372036854775808 ≤ x ∧ x ≤ 9223372036854775807) (hl : -9223372036854775808 ≤ l ∧ l ≤ 9223372036854775807) :
    Calls Try.prog 53 #[.pointer (some ⟨g, 0, none⟩), .agg #[.int .i64 x, .int .i64 l]] w fun e w' => e = .returned (.bool (mayV a z σ.n x l)) ∧ Below w.heap.size w w' := by
  have hA : Below w.heap.size w (w.alloc (.cells #[.int .i64 x, .int .i64 l] 52)) := (Below.refl _ w).alloc (Nat.le_refl _) _
  have HX := hide (heap_alloc_new w (.cells #[.int .i64 x, .int .i64 l] 52))
  have H1 := hide (h.below hA)
  have KSZ := hide (fun W (hB : Below (w.alloc (.cells #[.int .i64 x, .int .i64 l] 52)).heap.size (w.alloc (.cells #[.int .i64 x, .int .i64 l] 52)) W) => psize_any ((hd.below hA).below hB) hmx)
  have K1 := hide (fun W => lwithin_any x l 64 (a : Int) W hx hl (by omega) (by omega) (by omega))
  have K2 := hide (fun W => lwithin_any x l ((a + z : Nat) : Int) ((64 * σ.n : Nat) : Int) W hx hl (by omega) (by omega) (by omega))
  have HA := hide hA
  unfold mayV
  obtain ⟨b1, hb1⟩ : ∃ b1, wthV x l 64 (a : Int) = b1 := ⟨_, rfl⟩
  obtain ⟨b2, hb2⟩ : ∃ b2, wthV x l ((a + z : Nat) : Int) ((64 * σ.n : Nat) : Int) = b2 := ⟨_, rfl⟩
  rw [hb1, hb2]
  rw [hb1] at K1
  rw [hb2] at K2
  clear hA h hd hb1 hb2
  cases b1 with
  | true =>
    go_enter Try.func53, Try.ntmps53
    go_wp2
    refine wp_region_held_drew (S := fun Y => LogL Y g b a z ∧ Y.heap[w.heap.size]? = some (.cells #[.int .i64 x, .int .i64 l] 52 (0, 0))) (by kernel_rfl) ⟨H1.out.drew, HX.out⟩ (fun hS => ?_)
    refine wpAnyH_take (i := 0) (v := (.agg #[.int .i64 x, .int .i64 l])) rfl (by kernel_rfl) (by kernel_rfl) (by kernel_rfl) (fun _ _ _ h => h) (Or.inl ⟨by kernel_rfl, fun w' hw => by (have z1 := LogL.c1 hw.1; have z2 := LogL.c2 hw.1; have z3 := LogL.c3 hw.1; have z4 : w'.cell? ⟨w.heap.size, 0, none⟩ = some (.int .i64 x) := cell8 hw.2 0; have z5 : w'.cell? ⟨w.heap.size, 1, none⟩ = some (.int .i64 l) := cell8 hw.2 1; go_simp)⟩) hS ?_
    refine wpAnyH_take (i := 1) (v := (.pointer (some ⟨g, 0, none⟩))) rfl (by kernel_rfl) (by kernel_rfl) (by kernel_rfl) (fun _ _ _ h => h) (Or.inl ⟨by kernel_rfl, fun w' hw => by (go_simp)⟩) hS ?_
    refine wpAnyH_take (i := 2) (v := (.pointer (some ⟨g, 0, none⟩))) rfl (by kernel_rfl) (by kernel_rfl) (by kernel_rfl) (fun _ _ _ h => h) (Or.inl ⟨by kernel_rfl, fun w' hw => by (go_simp)⟩) hS ?_
    refine wpAnyH_take (i := 3) (v := (.pointer (some ⟨g, 2, none⟩))) rfl (by kernel_rfl) (by kernel_rfl) (by kernel_rfl) (fun _ _ _ h => h) (Or.inl ⟨by kernel_rfl, fun w' hw => by (go_simp)⟩) hS ?_
    refine wpAnyH_take (i := 4) (v := (.int .i64 (a : Int))) rfl (by kernel_rfl) (by kernel_rfl) (by kernel_rfl) (fun _ _ _ h => h) (Or.inl ⟨by kernel_rfl, fun w' hw => by (have z1 := LogL.c1 hw.1; have z2 := LogL.c2 hw.1; have z3 := LogL.c3 hw.1; have z4 : w'.cell? ⟨w.heap.size, 0, none⟩ = some (.int .i64 x) := cell8 hw.2 0; have z5 : w'.cell? ⟨w.heap.size, 1, none⟩ = some (.int .i64 l) := cell8 hw.2 1; go_simp)⟩) hS ?_
    refine wpAnyH_goS (i := 5) (by kernel_rfl) rfl (by kernel_rfl) (fun K hK => ?_)
    go_wp2_with (go_at_call 71; refine (K1.out _).mono ?_; rintro e W1 ⟨rfl, hB⟩; have HB1 := hide (bseq (Below.refl _ (w.alloc (.cells #[.int .i64 x, .int .i64 l] 52))).drew hB); clear hB)
    have hS2 := (show LogL W1 g b a z ∧ W1.heap[w.heap.size]? = some (.cells #[.int .i64 x, .int .i64 l] 52 (0, 0)) from ⟨H1.out.below HB1.out, row_keepU HX.out HB1.out⟩)
    refine hK.out _ _ hS2 ?_
    clear hK K
    refine wpAnyH_take (i := 6) (v := (.bool true)) rfl (by kernel_rfl) (by kernel_rfl) (by kernel_rfl) (fun _ _ _ h => h) (Or.inl ⟨by kernel_rfl, fun w' hw => by (go_simp)⟩) hS2 ?_
    refine wpAnyH_take (i := 7) (v := undef) rfl (by kernel_rfl) (by kernel_rfl) (by kernel_rfl) (fun _ _ _ h => h) (Or.inr ⟨by kernel_rfl, rfl⟩) hS2 ?_
    refine wpAnyH_take (i := 8) (v := undef) rfl (by kernel_rfl) (by kernel_rfl) (by kernel_rfl) (fun _ _ _ h => h) (Or.inr ⟨by kernel_rfl, rfl⟩) hS2 ?_
    refine wpAnyH_take (i := 9) (v := undef) rfl (by kernel_rfl) (by kernel_rfl) (by kernel_rfl) (fun _ _ _ h => h) (Or.inr ⟨by kernel_rfl, rfl⟩) hS2 ?_
    refine wpAnyH_take (i := 10) (v := undef) rfl (by kernel_rfl) (by kernel_rfl) (by kernel_rfl) (fun _ _ _ h => h) (Or.inr ⟨by kernel_rfl, rfl⟩) hS2 ?_
    refine wpAnyH_take (i := 11) (v := undef) rfl (by kernel_rfl) (by kernel_rfl) (by kernel_rfl) (fun _ _ _ h => h) (Or.inr ⟨by kernel_rfl, rfl⟩) hS2 ?_
    refine wpAnyH_take (i := 12) (v := undef) rfl (by kernel_rfl) (by kernel_rfl) (by kernel_rfl) (fun _ _ _ h => h) (Or.inr ⟨by kernel_rfl, rfl⟩) hS2 ?_
    refine wpAnyH_take (i := 13) (v := undef) rfl (by kernel_rfl) (by kernel_rfl) (by kernel_rfl) (fun _ _ _ h => h) (Or.inr ⟨by kernel_rfl, rfl⟩) hS2 ?_
    refine wpAnyH_take (i := 14) (v := undef) rfl (by kernel_rfl) (by kernel_rfl) (by kernel_rfl) (fun _ _ _ h => h) (Or.inr ⟨by kernel_rfl, rfl⟩) hS2 ?_
    refine wpAnyH_take (i := 15) (v := undef) rfl (by kernel_rfl) (by kernel_rfl) (by kernel_rfl) (fun _ _ _ h => h) (Or.inr ⟨by kernel_rfl, rfl⟩) hS2 ?_
    refine wpAnyH_take (i := 16) (v := (.bool true)) rfl (by kernel_rfl) (by kernel_rfl) (by kernel_rfl) (fun _ _ _ h => h) (Or.inl ⟨by kernel_rfl, fun w' hw => by (go_simp)⟩) hS2 ?_
    refine wpAnyH_take (i := 17) (v := (.bool true)) rfl (by kernel_rfl) (by kernel_rfl) (by kernel_rfl) (fun _ _ _ h => h) (Or.inl ⟨by kernel_rfl, fun w' hw => by (go_simp)⟩) hS2 ?_
    refine wpAnyH_done (by kernel_rfl) ?_ _
    simp only [Act.put, List.getElem_toArray, List.getElem_cons_zero, List.getElem_cons_succ, List.setIfInBounds_toArray, List.set_cons_zero, List.set_cons_succ]
    have HB := hide HB1.out
    go_wp2_with (fail)
    go_ret
    exact ⟨rfl, bseq HA.out HB.out⟩
  | false =>
    go_enter Try.func53, Try.ntmps53
    go_wp2
    refine wp_region_held_drew (S := fun Y => LogL Y g b a z ∧ Y.heap[w.heap.size]? = some (.cells #[.int .i64 x, .int .i64 l] 52 (0, 0))) (by kernel_rfl) ⟨H1.out.drew, HX.out⟩ (fun hS => ?_)
    refine wpAnyH_take (i := 0) (v := (.agg #[.int .i64 x, .int .i64 l])) rfl (by kernel_rfl) (by kernel_rfl) (by kernel_rfl) (fun _ _ _ h => h) (Or.inl ⟨by kernel_rfl, fun w' hw => by (have z1 := LogL.c1 hw.1; have z2 := LogL.c2 hw.1; have z3 := LogL.c3 hw.1; have z4 : w'.cell? ⟨w.heap.size, 0, none⟩ = some (.int .i64 x) := cell8 hw.2 0; have z5 : w'.cell? ⟨w.heap.size, 1, none⟩ = some (.int .i64 l) := cell8 hw.2 1; go_simp)⟩) hS ?_
    refine wpAnyH_take (i := 1) (v := (.pointer (some ⟨g, 0, none⟩))) rfl (by kernel_rfl) (by kernel_rfl) (by kernel_rfl) (fun _ _ _ h => h) (Or.inl ⟨by kernel_rfl, fun w' hw => by (go_simp)⟩) hS ?_
    refine wpAnyH_take (i := 2) (v := (.pointer (some ⟨g, 0, none⟩))) rfl (by kernel_rfl) (by kernel_rfl) (by kernel_rfl) (fun _ _ _ h => h) (Or.inl ⟨by kernel_rfl, fun w' hw => by (go_simp)⟩) hS ?_
    refine wpAnyH_take (i := 3) (v := (.pointer (some ⟨g, 2, none⟩))) rfl (by kernel_rfl) (by kernel_rfl) (by kernel_rfl) (fun _ _ _ h => h) (Or.inl ⟨by kernel_rfl, fun w' hw => by (go_simp)⟩) hS ?_
    refine wpAnyH_take (i := 4) (v := (.int .i64 (a : Int))) rfl (by kernel_rfl) (by kernel_rfl) (by kernel_rfl) (fun _ _ _ h => h) (Or.inl ⟨by kernel_rfl, fun w' hw => by (have z1 := LogL.c1 hw.1; have z2 := LogL.c2 hw.1; have z3 := LogL.c3 hw.1; have z4 : w'.cell? ⟨w.heap.size, 0, none⟩ = some (.int .i64 x) := cell8 hw.2 0; have z5 : w'.cell? ⟨w.heap.size, 1, none⟩ = some (.int .i64 l) := cell8 hw.2 1; go_simp)⟩) hS ?_
    refine wpAnyH_goS (i := 5) (by kernel_rfl) rfl (by kernel_rfl) (fun K hK => ?_)
    go_wp2_with (go_at_call 71; refine (K1.out _).mono ?_; rintro e W1 ⟨rfl, hB⟩; have HB1 := hide (bseq (Below.refl _ (w.alloc (.cells #[.int .i64 x, .int .i64 l] 52))).drew hB); clear hB)
    have hS2 := (show LogL W1 g b a z ∧ W1.heap[w.heap.size]? = some (.cells #[.int .i64 x, .int .i64 l] 52 (0, 0)) from ⟨H1.out.below HB1.out, row_keepU HX.out HB1.out⟩)
    refine hK.out _ _ hS2 ?_
    clear hK K
    refine wpAnyH_take (i := 6) (v := (.bool false)) rfl (by kernel_rfl) (by kernel_rfl) (by kernel_rfl) (fun _ _ _ h => h) (Or.inl ⟨by kernel_rfl, fun w' hw => by (go_simp)⟩) hS2 ?_
    refine wpAnyH_take (i := 7) (v := (.agg #[.int .i64 x, .int .i64 l])) rfl (by kernel_rfl) (by kernel_rfl) (by kernel_rfl) (fun _ _ _ h => h) (Or.inl ⟨by kernel_rfl, fun w' hw => by (have z1 := LogL.c1 hw.1; have z2 := LogL.c2 hw.1; have z3 := LogL.c3 hw.1; have z4 : w'.cell? ⟨w.heap.size, 0, none⟩ = some (.int .i64 x) := cell8 hw.2 0; have z5 : w'.cell? ⟨w.heap.size, 1, none⟩ = some (.int .i64 l) := cell8 hw.2 1; go_simp)⟩) hS2 ?_
    refine wpAnyH_take (i := 8) (v := (.pointer (some ⟨g, 0, none⟩))) rfl (by kernel_rfl) (by kernel_rfl) (by kernel_rfl) (fun _ _ _ h => h) (Or.inl ⟨by kernel_rfl, fun w' hw => by (go_simp)⟩) hS2 ?_
    refine wpAnyH_take (i := 10) (v := (.pointer (some ⟨g, 0, none⟩))) rfl (by kernel_rfl) (by kernel_rfl) (by kernel_rfl) (fun _ _ _ h => h) (Or.inl ⟨by kernel_rfl, fun w' hw => by (go_simp)⟩) hS2 ?_
    refine wpAnyH_take (i := 11) (v := (.pointer (some ⟨g, 0, none⟩))) rfl (by kernel_rfl) (by kernel_rfl) (by kernel_rfl) (fun _ _ _ h => h) (Or.inl ⟨by kernel_rfl, fun w' hw => by (go_simp)⟩) hS2 ?_
    refine wpAnyH_take (i := 12) (v := (.pointer (some ⟨g, 1, none⟩))) rfl (by kernel_rfl) (by kernel_rfl) (by kernel_rfl) (fun _ _ _ h => h) (Or.inl ⟨by kernel_rfl, fun w' hw => by (go_simp)⟩) hS2 ?_
    refine wpAnyH_take (i := 13) (v := (.pointer (some ⟨b, 0, none⟩))) rfl (by kernel_rfl) (by kernel_rfl) (by kernel_rfl) (fun _ _ _ h => h) (Or.inl ⟨by kernel_rfl, fun w' hw => by (have z1 := LogL.c1 hw.1; have z2 := LogL.c2 hw.1; have z3 := LogL.c3 hw.1; have z4 : w'.cell? ⟨w.heap.size, 0, none⟩ = some (.int .i64 x) := cell8 hw.2 0; have z5 : w'.cell? ⟨w.heap.size, 1, none⟩ = some (.int .i64 l) := cell8 hw.2 1; go_simp)⟩) hS2 ?_
    refine wpAnyH_goS (i := 9) (by kernel_rfl) rfl (by kernel_rfl) (fun K hK => ?_)
    go_wp2_with (go_at_call 55; refine (lend_any hS2.1 haz).mono ?_; rintro e w' ⟨rfl, hw⟩; obtain rfl := hw.symm)
    have hS3 := (show LogL W1.drew g b a z ∧ W1.drew.heap[w.heap.size]? = some (.cells #[.int .i64 x, .int .i64 l] 52 (0, 0)) from hS2)
    refine hK.out _ _ hS3 ?_
    clear hK K
    refine wpAnyH_goS (i := 14) (by kernel_rfl) rfl (by kernel_rfl) (fun K hK => ?_)
    go_wp2_with (go_at_call 27; refine (KSZ.out _ (HB1.out.drew)).mono ?_; rintro e w' ⟨rfl, hw⟩; obtain rfl := hw.symm)
    have hS4 := hS3
    refine hK.out _ _ hS4 ?_
    clear hK K
    refine wpAnyH_goS (i := 15) (by kernel_rfl) rfl (by kernel_rfl) (fun K hK => ?_)
    go_wp2_with (go_at_call 71; refine (K2.out _).mono ?_; rintro e W2 ⟨rfl, hB⟩; have HB2 := hide (bseq HB1.out.drew hB); clear hB)
    have hS5 := (show LogL W2 g b a z ∧ W2.heap[w.heap.size]? = some (.cells #[.int .i64 x, .int .i64 l] 52 (0, 0)) from ⟨H1.out.below HB2.out, row_keepU HX.out HB2.out⟩)
    refine hK.out _ _ hS5 ?_
    clear hK K
    refine wpAnyH_take (i := 16) (v := (.bool b2)) rfl (by kernel_rfl) (by kernel_rfl) (by kernel_rfl) (fun _ _ _ h => h) (Or.inl ⟨by kernel_rfl, fun w' hw => by (go_simp)⟩) hS5 ?_
    refine wpAnyH_take (i := 17) (v := (.bool b2)) rfl (by kernel_rfl) (by kernel_rfl) (by kernel_rfl) (fun _ _ _ h => h) (Or.inl ⟨by kernel_rfl, fun w' hw => by (go_simp)⟩) hS5 ?_
    refine wpAnyH_done (by kernel_rfl) ?_ _
    simp only [Act.put, List.getElem_toArray, List.getElem_cons_zero, List.getElem_cons_succ, List.setIfInBounds_toArray, List.set_cons_zero, List.set_cons_succ]
    have HB := hide HB2.out
    go_wp2_with (fail)
    go_ret
    exact ⟨rfl, bseq HA.out HB.out⟩
/-- What records of so many bytes take, behind a sum: the sum, and the error's number. -/
def needV : Int → List Int → Int × Int
  | s, [] => (s, 0)
  | s, n :: t => if n < 1 ∨ (roundV n 8).2 ≠ 0 ∨ 9223372036854775783 - s < (roundV n 8).1 then (0, 2) else needV (s + (24 + (roundV n 8).1)) t
theorem roundV_ge (n : Int) (h : (roundV n 8).2 = 0) : n ≤ (roundV n 8).1 ∧ 0 ≤ (roundV n 8).1 ∧ (roundV n 8).1 ≤ 9223372036854775807 ∨ 9223372036854775807 < n := by
  unfold roundV at h ⊢
  split at h
  · simp at h
  · rename_i h1
    rw [if_neg h1]
    split at h
    · rename_i h2
      rw [if_pos h2]
      omega
    · rename_i h2
      rw [if_neg h2]
      split at h
      · simp at h
      · rename_i h3
        rw [if_neg h3]
        left
        simp
        omega
/-- A list of numbers. -/
def SlZ (w : World) (a : Option Addr) (zs : List Int) : Prop := (∀ z ∈ zs, -9223372036854775808 ≤ z ∧ z ≤ 9223372036854775807) ∧ (zs = [] ∨ ∃ g o, a = some ⟨g, o, none⟩ ∧ g < w.heap.size ∧ ∀ (i : Nat) (z : Int), zs[i]? = some z → w.cell? ⟨g, o + i, none⟩ = some (.int .i64 z))
theorem needV_step {zs : List Int} {j : Nat} {n : Int} (hn : zs[j]? = some n) (s : Int) : needV s (zs.drop j) = if n < 1 ∨ (roundV n 8).2 ≠ 0 ∨ 9223372036854775783 - s < (roundV n 8).1 then (0, 2) else needV (s + (24 + (roundV n 8).1)) (zs.drop (j + 1)) := by
  have hj : j < zs.length := (List.getElem?_eq_some_iff.1 hn).1
  rw [List.drop_eq_getElem_cons hj]
  have e : zs[j] = n := by
    have := List.getElem?_eq_getElem hj
    rw [this] at hn
    exact Option.some.inj hn
  rw [e]
  rfl
set_option maxHeartbeats 400000 in
theorem need_any {w : World} {a : Option Addr} {zs : List Int} (cap m : Nat) (h : SlZ w a zs) (hm : zs.length = m) (hl : m ≤ 17592186043904) :
    Calls Try.prog 54 #[.slice a m cap] w fun e w' => e = .returned (.tuple #[.int .i64 (needV 0 zs).1, .int .i64 (needV 0 zs).2]) ∧ w' = w := by
  have H := hide h
  have HM := hide hm
  obtain ⟨V, hV⟩ : ∃ V, needV 0 zs = V := ⟨_, rfl⟩
  rw [hV]
  have HV := hide hV
  have KR := hide (fun (n : Int) (h3 : n ≤ 9223372036854775807) => roundP_any n 8 h3 (by omega) w)
  clear h hm hV
  go_enter Try.func54, Try.ntmps54
  go_wp2
  go_loopw [4, 11] (fun sv iv wr => ∃ (j : Nat) (s : Int), iv = .int .i64 (j : Int) ∧ sv = .int .i64 s ∧ j ≤ m ∧ wr = w ∧ 0 ≤ s ∧ s ≤ 9223372036854775807 ∧ needV s (zs.drop j) = V) (fun _ iv _ => (m - (intOf iv).toNat))
  case atStart => exact ⟨0, 0, rfl, rfl, Nat.zero_le _, rfl, by omega, by omega, HV.out⟩
  case round =>
    obtain ⟨j, s, rfl, rfl, hj, rfl, hs0, hs1, hnv⟩ := hrel
    have HNV := hide hnv
    clear hnv
    by_cases hlt : j < m
    · obtain ⟨k, hk⟩ : ∃ k, zs[j]? = some k := ⟨_, List.getElem?_eq_getElem (by rw [HM.out]; exact hlt)⟩
      obtain ⟨hb, hr⟩ := H.out
      have hkb := hb k (List.mem_of_getElem? hk)
      have hst := needV_step hk s
      rw [HNV.out] at hst
      obtain ⟨g, o, hga, hc⟩ : ∃ g o, a = some ⟨g, o, none⟩ ∧ wr.cell? ⟨g, o + j, none⟩ = some (.int .i64 k) := by
        rcases hr with h0 | ⟨g, o, h1, _, h3⟩
        · rw [h0] at hk; cases hk
        · exact ⟨g, o, h1, h3 j k hk⟩
      subst hga
      have l0 := index_int g o j m cap hlt wr
      have jI : (j : Int) < (m : Int) := by omega
      have hge := roundV_ge k
      have KRk := hide (KR.out k hkb.2)
      obtain ⟨r, c, hrc⟩ : ∃ r c, roundV k 8 = (r, c) := ⟨_, _, rfl⟩
      rw [hrc] at hst KRk hge
      simp only at hst hge
      have HST := hide hst
      have wm1 : IntKind.i64.wrap (9223372036854775783 - s) = 9223372036854775783 - s := by rw [IntKind.wrap_i64]; omega
      clear hst hr hb hk
      by_cases q1 : k < 1
      · have e := HST.out
        rw [if_pos (.inl q1)] at e
        subst e
        go_wp2_with (go_at_call 72; refine (KRk.out).mono ?_; rintro e w' ⟨rfl, hw⟩; obtain rfl := hw.symm)
        go_ret2
        exact ⟨rfl, rfl⟩
      · by_cases q2 : c = 0
        · subst q2
          have hge2 := hge rfl
          by_cases q3 : 9223372036854775783 - s < r
          · have e := HST.out
            rw [if_pos (.inr (.inr q3))] at e
            subst e
            go_wp2_with (go_at_call 72; refine (KRk.out).mono ?_; rintro e w' ⟨rfl, hw⟩; obtain rfl := hw.symm)
            go_ret2
            exact ⟨rfl, rfl⟩
          · have e := HST.out
            rw [if_neg (by simp; omega)] at e
            have HE := hide e
            have wm2 : IntKind.i64.wrap (24 + r) = 24 + r := by rw [IntKind.wrap_i64]; omega
            have wm3 : IntKind.i64.wrap (s + (24 + r)) = s + (24 + r) := by rw [IntKind.wrap_i64]; omega
            clear e
            go_wp2_with (go_at_call 72; refine (KRk.out).mono ?_; rintro e w' ⟨rfl, hw⟩; obtain rfl := hw.symm)
            go_roundw
            case rel => exact ⟨j + 1, s + (24 + r), int_congrP (by omega), rfl, by omega, trivial, by omega, by omega, HE.out.symm⟩
            case measure => simp [intOf]; omega
        · have e := HST.out
          rw [if_pos (.inr (.inl q2))] at e
          subst e
          have hcb : (c == 0) = false := by simpa using q2
          go_wp2_with (go_at_call 72; refine (KRk.out).mono ?_; rintro e w' ⟨rfl, hw⟩; obtain rfl := hw.symm)
          go_ret2
          exact ⟨rfl, rfl⟩
    · have jI : ¬ (j : Int) < (m : Int) := by omega
      have hz : zs.drop j = [] := List.drop_eq_nil_of_le (by have := HM.out; omega)
      have e := HNV.out
      rw [hz] at e
      have e2 : V = (s, 0) := e.symm
      subst e2
      clear e
      go_wp2
      go_ret2
      exact ⟨rfl, rfl⟩
end Go.Proofs.Ytgfgihpkbbjkfaa
namespace Go.Proofs.Ytgfgihpkbbjkfaa
open Go.RowKit Go.Shelf
set_option linter.unusedVariables false
set_option maxRecDepth 100000

theorem put64_nil (v : Nat) (w : World) (hv : v < 18446744073709551616) : Calls Try.prog 86 #[.slice none 0 0, .int .u64 (v : Int)] w fun e w' => e = .returned (.slice (some ⟨w.heap.size, 0, none⟩) 8 8) ∧ Below w.heap.size w w' ∧ OwnB w' w.heap.size (leB 8 v) := by
  have k := put64 none 0 v [] w (.inl rfl) (by simp) hv
  simpa using k
set_option maxHeartbeats 400000 in
theorem lput_any (g p v : Nat) (cur : List Nat) (w : World) (hO : OwnB w g cur) (hcl : cur.length = 24) (hp : p + 8 ≤ 24) (hv : v < 18446744073709551616) :
    Calls Try.prog 73 #[.slice (some ⟨g, 0, none⟩) 24 24, .int .i64 (p : Int), .int .u64 (v : Int)] w fun e w' => e = .returned (.tuple #[]) ∧ OwnB w' g (splice cur p (leB 8 v)) ∧ Gr (fun k => k = g) w w' := by
  have KP := hide (put64_nil v w.drew hv)
  have HO := hide hO
  have HCL := hide hcl
  have hll : (leB 8 v).length = 8 := leB_length 8 v
  generalize leB 8 v = lb at *
  have HLL := hide hll
  have SB := hide (fun W => slice_bytes g 0 p 24 24 (by omega) (by omega) W)
  clear hO hcl hll
  go_enter Try.func73, Try.ntmps73
  go_wp2
  refine wp_region_held_drew (S := fun _ => True) (by kernel_rfl) trivial (fun hS => ?_)
  refine wpAnyH_take (i := 0) (v := (.slice (some ⟨g, 0, none⟩) 24 24)) rfl (by kernel_rfl) (by kernel_rfl) (by kernel_rfl) (fun _ _ _ h => h) (Or.inl ⟨by kernel_rfl, fun w' hw => by (go_simp)⟩) hS ?_
  refine wpAnyH_take (i := 1) (v := (.int .i64 (p : Int))) rfl (by kernel_rfl) (by kernel_rfl) (by kernel_rfl) (fun _ _ _ h => h) (Or.inl ⟨by kernel_rfl, fun w' hw => by (go_simp)⟩) hS ?_
  refine wpAnyH_take (i := 2) (v := (.slice (some ⟨g, p, none⟩) (24 - p) (24 - p))) rfl (by kernel_rfl) (by kernel_rfl) (by kernel_rfl) (fun _ _ _ h => h) (Or.inl ⟨by kernel_rfl, fun w' hw => by (have e := SB.out w'; rw [Nat.zero_add] at e; go_simp)⟩) hS ?_
  refine wpAnyH_take (i := 3) (v := (.int .u64 (v : Int))) rfl (by kernel_rfl) (by kernel_rfl) (by kernel_rfl) (fun _ _ _ h => h) (Or.inl ⟨by kernel_rfl, fun w' hw => by (go_simp)⟩) hS ?_
  refine wpAnyH_goS (i := 4) (by kernel_rfl) rfl (by kernel_rfl) (fun K hK => ?_)
  go_wp2_with (go_at_call 86; refine (KP.out).mono ?_; rintro e W1 ⟨rfl, hB, hR⟩; have HB := hide hB; have HR := hide hR; clear hB hR)
  have hS2 := trivial
  refine hK.out _ _ hS2 ?_
  clear hK K
  have h2 : OwnB W1 g cur := (show OwnB w.drew g cur from HO.out).below HB.out HO.out.lt
  have hsrc : ∀ q u, (lb.map B8)[q]? = some u → W1.cell? ((⟨w.heap.size, 0, none⟩ : Addr).add q) = some u := fun q u hu => by
    rw [Addr.add_mid, Nat.zero_add]
    refine (cell8 (w := W1) HR.out q).trans ?_
    simpa using hu
  have yo : OwnB (W1.setRow g (splice (cur.map B8) p (lb.map B8)).toArray) g (splice cur p lb) := by
    have h5 := heap_setRow W1 g _ (splice (cur.map B8) p (lb.map B8)).toArray _ _ h2
    rw [← splice_map] at h5
    rw [← splice_map]
    exact h5
  have YO := hide yo
  have YG := hide (((Gr.of_below HB.out : Gr (fun k => k = g) w.drew W1).trans (Gr.setRow W1 g (splice (cur.map B8) p (lb.map B8)).toArray rfl : Gr (fun k => k = g) W1 _) (fun i h => .inl h)) : Gr (fun k => k = g) w (W1.setRow g (splice (cur.map B8) p (lb.map B8)).toArray))
  have hcp : (lb.map B8).length = Nat.min 8 (24 - p) := by rw [List.length_map, HLL.out]; show 8 = min 8 _; omega
  have hft : p + (lb.map B8).length ≤ (cur.map B8).length := by rw [List.length_map, List.length_map, HCL.out, HLL.out]; omega
  clear yo
  refine wpAnyH_op (i := 5) (by kernel_rfl) rfl (by kernel_rfl) (by kernel_rfl) (wp_copy (.tmp 8) (.tmp 10) 33 33 (by kernel_rfl) 5 Try.underlying33 (by kernel_rfl) g p (24 - p) (24 - p) ⟨w.heap.size, 0, none⟩ 8 8 (by kernel_rfl) (by kernel_rfl) (cur.map B8) 5 h2 (lb.map B8) hcp hsrc hft (B8_cell lb) ⟨trivial, ?_⟩)
  simp only [Act.put, List.getElem_toArray, List.getElem_cons_zero, List.getElem_cons_succ, List.setIfInBounds_toArray, List.set_cons_zero, List.set_cons_succ]
  go_wp2_with (fail)
  go_end0
  exact ⟨rfl, YO.out, YG.out⟩
theorem ltake_any {a : Option Addr} {bs : List Nat} (cap p : Nat) (w : World) (hs : Sl w a bs) (hl : bs.length = 24) (hp : p + 8 ≤ 24) :
    Calls Try.prog 77 #[.slice a 24 cap, .int .i64 (p : Int)] w fun e w' => e = .returned (.int .i64 (wrap64 ((leV ((bs.drop p).take 8) : Nat) : Int))) ∧ w' = w := by
  have k := take64_good a cap p bs w hs (by unfold maxLen; omega) (by omega)
  rw [hl] at k
  generalize leV ((bs.drop p).take 8) = v at *
  have K := hide k
  clear k hs
  go_enter Try.func77, Try.ntmps77
  go_wp2_with (go_at_call 85; refine (K.out).mono ?_; rintro e w' ⟨rfl, hw⟩; obtain rfl := hw.symm)
  go_ret
  exact ⟨rfl, rfl⟩
end Go.Proofs.Ytgfgihpkbbjkfaa
namespace Go.Proofs.Ytgfgihpkbbjkfaa
open Go.RowKit Go.Shelf
set_option linter.unusedVariables false
set_option maxRecDepth 100000

/-- A row of bytes of its own, at v. -/
def OwnR (W : World) (B : Nat) (v : Value) (bs : List Nat) : Prop := W.ownsRow B 5 1 v bs.length (bs.map B8)
theorem OwnR.below {W W' : World} {B : Nat} {v : Value} {bs : List Nat} (h : OwnR W B v bs) (hb : Below W.heap.size W W') : OwnR W' B v bs := by
  refine ⟨h.1, ?_⟩
  rcases h.2 with h2 | ⟨g, cap, cur, hv, hg, hh, r⟩
  · exact .inl h2
  · exact .inr ⟨g, cap, cur, hv, hg, (hb.block g (Array.getElem?_eq_some_iff.1 hh).1).trans hh, r⟩
/-- The head of a record. -/
def recH (at_ : Nat) (old : List Nat) : List Nat := leB 8 at_ ++ (leB 8 old.length ++ leB 8 (sumV [leB 8 at_ ++ leB 8 old.length, old]))
def padN (n : Nat) : Nat := (8 - n % 8) % 8
def recB (at_ : Nat) (old : List Nat) : List Nat := recH at_ old ++ (old ++ List.replicate (padN old.length) 0)
theorem recH_len (at_ : Nat) (old : List Nat) : (recH at_ old).length = 24 := by unfold recH; rw [List.length_append, List.length_append, leB_length, leB_length, leB_length]
theorem recB_len (at_ : Nat) (old : List Nat) : (recB at_ old).length = 24 + (old.length + padN old.length) := by unfold recB; rw [List.length_append, List.length_append, recH_len, List.length_replicate]
theorem recH_lt (at_ : Nat) (old : List Nat) : ∀ x ∈ recH at_ old, x < 256 := by
  intro x hx
  unfold recH at hx
  rcases List.mem_append.1 hx with h | h
  · exact leB_lt 8 _ x h
  · rcases List.mem_append.1 h with h | h
    · exact leB_lt 8 _ x h
    · exact leB_lt 8 _ x h
theorem recB_lt (at_ : Nat) (old : List Nat) (ho : ∀ x ∈ old, x < 256) : ∀ x ∈ recB at_ old, x < 256 := by
  intro x hx
  unfold recB at hx
  rcases List.mem_append.1 hx with h | h
  · exact recH_lt at_ old x h
  · rcases List.mem_append.1 h with h | h
    · exact ho x h
    · rw [List.eq_of_mem_replicate h]; omega
theorem spl0 (l1 : List Nat) (h : l1.length = 8) : splice (List.replicate 24 0) 0 l1 = l1 ++ List.replicate 16 0 := by simp [splice, h]
theorem spl8 (l1 l2 : List Nat) (h1 : l1.length = 8) (h2 : l2.length = 8) : splice (l1 ++ List.replicate 16 0) 8 l2 = l1 ++ (l2 ++ List.replicate 8 0) := by
  unfold splice
  rw [h2, List.take_append_of_le_length (by omega), List.take_of_length_le (by omega), List.drop_append, h1]
  simp [h1]
theorem spl16 (l1 l2 l3 : List Nat) (h1 : l1.length = 8) (h2 : l2.length = 8) (h3 : l3.length = 8) : splice (l1 ++ (l2 ++ List.replicate 8 0)) 16 l3 = l1 ++ (l2 ++ l3) := by
  have e : l1 ++ (l2 ++ List.replicate 8 0) = (l1 ++ l2) ++ List.replicate 8 0 := (List.append_assoc _ _ _).symm
  have t : ((l1 ++ l2) ++ List.replicate 8 0).take 16 = l1 ++ l2 := List.take_left' (by simp [h1, h2])
  have d : ((l1 ++ l2) ++ List.replicate 8 0).drop (16 + 8) = [] := List.drop_of_length_le (by simp [h1, h2])
  unfold splice
  rw [e, h3, t, d]
  simp
theorem bel_of_gr {w W W' : World} {g : Nat} (h : Below w.heap.size w W) (hg : Gr (fun k => k = g) W W') (hn : w.heap.size ≤ g) : Below w.heap.size w W' :=
  ⟨hg.1.trans h.os, hg.2.1.trans h.tape, hg.2.2.1.trans h.output, Nat.le_trans h.size hg.size, fun k hk => (hg.block (Nat.lt_of_lt_of_le hk h.size) (by omega)).trans (h.block k hk)⟩
theorem make24 (w : World) : (Instr.makeSlice 33 (.int .i64 24) (.int .i64 24)).run Try.prog w = .ok (.slice (some ⟨w.heap.size, 0, none⟩) 24 24) (w.alloc (.cells (madeCells #[.int .u8 0] 24) 5)) :=
  run_make_row' (P := Try.prog) 33 5 (.int .u8 0) 1 Try.underlying33 Try.info5 rfl .i64 .i64 24 (by omega) (by omega) w
theorem slice16 (g : Nat) (w : World) : (Instr.sliceAt 33 (.slice (some ⟨g, 0, none⟩) 24 24) none (some (.int .i64 16)) none).run Try.prog w = .ok (.slice (some ⟨g, 0, none⟩) 16 24) w := by
  obtain ⟨it, h1, h2⟩ := info_of (t := 5) (n := 1) (by kernel_rfl)
  have hu : Try.prog.underlying 33 = some (.slice 5) := by kernel_rfl
  simp [Instr.sliceAt, Instr.slice, Sem.run_bind, run_underlying hu, Instr.sliceBounds, Instr.sliceBound, asIntOf, sizeOf, typeInfo, h1, Addr.add_mid]
theorem infoU8 : ∃ i, Try.prog.info? 5 = some i ∧ i.zero = some (.int .u8 0) ∧ i.size = 1 ∧ i.bytes = 1 := by
  have h : (Try.prog.info? 5).map (fun i => (i.zero, i.size, i.bytes)) = some (some (.int .u8 0), 1, 1) := by kernel_rfl
  cases hq : Try.prog.info? 5 with
  | none => rw [hq] at h; cases h
  | some i => rw [hq] at h; simp at h; exact ⟨i, rfl, h.1, h.2.1, h.2.2⟩
theorem pad_more {n k : Nat} (hk : k ≤ padN n) : (24 + n + k) % 8 = 0 ↔ k = padN n := by
  unfold padN at *
  omega
theorem OwnR.of {W : World} {g : Nat} {bs : List Nat} (h : OwnB W g bs) (hl : bs.length ≤ 4194304) : OwnR W g (.slice (some ⟨g, 0, none⟩) bs.length bs.length) bs :=
  ⟨by simp, .inr ⟨g, bs.length, (bs.map B8).toArray, rfl, Nat.le_refl _, h, Nat.le_refl _, by unfold maxLen; omega, by simp, by simp [List.take_of_length_le]⟩⟩
theorem bel_of_grown {w W W' : World} {v : Value} {n : Nat} {xs : List Value} (h : Below w.heap.size w W) (ho : W.ownsRow w.heap.size 5 1 v n xs) (hg : W.grownBy W' v.ownBlock) : Below w.heap.size w W' := by
  refine ⟨hg.os.trans h.os, hg.tape.trans h.tape, hg.output.trans h.output, Nat.le_trans h.size hg.size, fun k hk => (hg.block k (Nat.lt_of_lt_of_le hk h.size) (fun e => ?_)).trans (h.block k hk)⟩
  rcases ho.2 with ⟨rfl, _⟩ | ⟨g, cap, cur, rfl, hg2, _⟩
  · cases e
  · have e2 : some k = some g := e
    cases e2
    omega
theorem cell_oneU (W : World) (t : TypeId) (a : Value) : ∀ j u, [a][j]? = some u → (W.alloc (.cells #[a] t)).cell? ((⟨W.heap.size, 0, none⟩ : Addr).add j) = some u := by
  intro j u hj
  match j, hj with
  | 0, hj => simp at hj; subst hj; simp [Addr.add]
  | n + 1, hj => simp at hj
set_option maxHeartbeats 1000000 in
theorem llaid_any (at_ R o : Nat) (old : List Nat) (cap : Nat) (w : World) (hs : Seg w R o old) (hR : R < w.heap.size) (h1 : 1 ≤ old.length) (hl : old.length ≤ 4194304) (hat : at_ < 9223372036854775808) (hob : ∀ x ∈ old, x < 256) :
    Calls Try.prog 56 #[.int .i64 (at_ : Int), .slice (some ⟨R, o, none⟩) old.length cap] w fun e w' => ∃ v, e = .returned v ∧ OwnR w' w.heap.size v (recB at_ old) ∧ Below w.heap.size w w' := by
  obtain ⟨n, hn⟩ : ∃ n, old.length = n := ⟨_, rfl⟩
  rw [hn] at h1 hl ⊢
  obtain ⟨l1, hl1⟩ : ∃ l, leB 8 at_ = l := ⟨_, rfl⟩
  obtain ⟨l2, hl2⟩ : ∃ l, leB 8 n = l := ⟨_, rfl⟩
  have e1 : l1.length = 8 := by rw [← hl1]; exact leB_length 8 _
  have e2 : l2.length = 8 := by rw [← hl2]; exact leB_length 8 _
  have b1 : ∀ x ∈ l1, x < 256 := by rw [← hl1]; exact leB_lt 8 _
  have b2 : ∀ x ∈ l2, x < 256 := by rw [← hl2]; exact leB_lt 8 _
  obtain ⟨sm, hsm⟩ : ∃ s, sumV [l1 ++ l2, old] = s := ⟨_, rfl⟩
  have hsl : sm < 4294967296 := by
    rw [← hsm]
    refine sumV_lt _ (fun r hr => ?_)
    simp only [List.mem_cons, List.not_mem_nil, or_false] at hr
    rcases hr with rfl | rfl
    · intro x hx
      rcases List.mem_append.1 hx with h | h
      · exact b1 x h
      · exact b2 x h
    · exact hob
  obtain ⟨l3, hl3⟩ : ∃ l, leB 8 sm = l := ⟨_, rfl⟩
  have e3 : l3.length = 8 := by rw [← hl3]; exact leB_length 8 _
  have hrec : recB at_ old = (l1 ++ (l2 ++ l3)) ++ (old ++ List.replicate (padN n) 0) := by
    unfold recB recH
    rw [hn, hl1, hl2, hsm, hl3]
  rw [hrec]
  have mk := make24 w
  have hm0 := OwnB.made w 24
  generalize madeCells #[.int .u8 0] 24 = MC at *
  have HA := hide (show Below w.heap.size w (w.alloc (.cells MC 5)) from (Below.refl _ w).alloc (Nat.le_refl _) _)
  have HM := hide hm0
  clear hm0
  have P1 := hide (fun W (hW : OwnB W w.heap.size (List.replicate 24 0)) => show Calls Try.prog 73 #[.slice (some ⟨w.heap.size, 0, none⟩) 24 24, .int .i64 0, .int .u64 (at_ : Int)] W fun e w' => e = .returned (.tuple #[]) ∧ OwnB w' w.heap.size (l1 ++ List.replicate 16 0) ∧ Gr (fun k => k = w.heap.size) W w' by
    have k := lput_any w.heap.size 0 at_ (List.replicate 24 0) W hW (by simp) (by omega) (by omega)
    rw [hl1, spl0 l1 e1] at k
    exact k)
  have P2 := hide (fun W (hW : OwnB W w.heap.size (l1 ++ List.replicate 16 0)) => show Calls Try.prog 73 #[.slice (some ⟨w.heap.size, 0, none⟩) 24 24, .int .i64 8, .int .u64 (n : Int)] W fun e w' => e = .returned (.tuple #[]) ∧ OwnB w' w.heap.size (l1 ++ (l2 ++ List.replicate 8 0)) ∧ Gr (fun k => k = w.heap.size) W w' by
    have k := lput_any w.heap.size 8 n _ W hW (by rw [List.length_append, e1]; simp) (by omega) (by omega)
    rw [hl2, spl8 l1 l2 e1 e2] at k
    exact k)
  have P3 := hide (fun W (hW : OwnB W w.heap.size (l1 ++ (l2 ++ List.replicate 8 0))) => show Calls Try.prog 73 #[.slice (some ⟨w.heap.size, 0, none⟩) 24 24, .int .i64 16, .int .u64 (sm : Int)] W fun e w' => e = .returned (.tuple #[]) ∧ OwnB w' w.heap.size (l1 ++ (l2 ++ l3)) ∧ Gr (fun k => k = w.heap.size) W w' by
    have k := lput_any w.heap.size 16 sm _ W hW (by rw [List.length_append, List.length_append, e1, e2]; simp) (by omega) (by omega)
    rw [hl3, spl16 l1 l2 l3 e1 e2 e3] at k
    exact k)
  have KSUM := hide (fun (W : World) (h2 : OwnB W w.heap.size (l1 ++ (l2 ++ List.replicate 8 0))) (hB : Below w.heap.size w W) => show Calls Try.prog 74 #[.slice (some ⟨W.heap.size, 0, none⟩) 2 2] (W.alloc (.cells #[.slice (some ⟨w.heap.size, 0, none⟩) 16 24, .slice (some ⟨R, o, none⟩) n cap] 33)) fun e w' => e = .returned (.int .u32 (sm : Int)) ∧ w' = W.alloc (.cells #[.slice (some ⟨w.heap.size, 0, none⟩) 16 24, .slice (some ⟨R, o, none⟩) n cap] 33) by
    have hA2 : Below W.heap.size W (W.alloc (.cells #[.slice (some ⟨w.heap.size, 0, none⟩) 16 24, .slice (some ⟨R, o, none⟩) n cap] 33)) := (Below.refl _ W).alloc (Nat.le_refl _) _
    have hnw := heap_alloc_new W (.cells #[.slice (some ⟨w.heap.size, 0, none⟩) 16 24, .slice (some ⟨R, o, none⟩) n cap] 33)
    rw [← hsm]
    have k := sum_any (some ⟨W.heap.size, 0, none⟩) 2 [l1 ++ l2, old] (W.alloc (.cells #[.slice (some ⟨w.heap.size, 0, none⟩) 16 24, .slice (some ⟨R, o, none⟩) n cap] 33)) (.inr ⟨W.heap.size, 0, rfl, lt_of_heap hnw, fun i r hr => ?_⟩) (by unfold maxLen; simp)
    · exact k
    · match i, hr with
      | 0, hr =>
        simp at hr
        subst hr
        refine ⟨some ⟨w.heap.size, 0, none⟩, 24, ?_, ?_, ?_⟩
        · rw [cell8 hnw, List.length_append, e1, e2]; rfl
        · refine .inr ⟨w.heap.size, 0, rfl, Nat.lt_of_lt_of_le h2.lt hA2.size, fun j y hy => ?_⟩
          have hj : (l1 ++ (l2 ++ List.replicate 8 0))[j]? = some y := by
            rw [← List.append_assoc, List.getElem?_append_left (List.getElem?_eq_some_iff.1 hy).1]
            exact hy
          rw [Nat.zero_add]
          refine ⟨(h2.below hA2 h2.lt).cell j y hj, ?_⟩
          rcases List.mem_append.1 (List.mem_of_getElem? hy) with h | h
          · exact b1 y h
          · exact b2 y h
        · unfold maxLen; rw [List.length_append, e1, e2]; omega
      | 1, hr =>
        simp at hr
        subst hr
        refine ⟨some ⟨R, o, none⟩, cap, ?_, ?_, ?_⟩
        · rw [cell8 hnw, hn]; rfl
        · refine .inr ⟨R, o, rfl, Nat.lt_of_lt_of_le (Nat.lt_of_lt_of_le hR hB.size) hA2.size, fun j y hy => ?_⟩
          have h5 := hs j y hy
          exact ⟨(hA2.cell (Nat.lt_of_lt_of_le hR hB.size)).trans ((hB.cell hR).trans h5.1), h5.2⟩
        · unfold maxLen; omega
      | i + 2, hr => simp at hr)
  have s16 := fun W => slice16 w.heap.size W
  have HSEG := hide hs
  have wa : IntKind.u64.wrap (at_ : Int) = (at_ : Int) := by rw [IntKind.wrap_u64]; omega
  have wn : IntKind.u64.wrap (n : Int) = (n : Int) := by rw [IntKind.wrap_u64]; omega
  have ws : IntKind.u64.wrap (sm : Int) = (sm : Int) := by rw [IntKind.wrap_u64]; omega
  have HN := hide hn
  have E123 := hide (And.intro e1 (And.intro e2 e3))
  obtain ⟨it, hit, hz0, hz1, hz2⟩ := infoU8
  clear hs hl1 hl2 hl3 hsm hrec hn e1 e2 e3
  go_enter Try.func56, Try.ntmps56
  go_upto_region 5 with (first
    | (go_at_call 73; refine (P1.out _ HM.out).mono ?_; rintro e W1 ⟨rfl, ho1, hg1⟩; have HO1 := hide ho1; have HB1 := hide (bel_of_gr HA.out hg1 (Nat.le_refl _)); clear ho1 hg1 P1)
    | (go_at_call 73; refine (P2.out _ HO1.out).mono ?_; rintro e W2 ⟨rfl, ho2, hg2⟩; have HO2 := hide ho2; have HB2 := hide (bel_of_gr HB1.out hg2 (Nat.le_refl _)); clear ho2 hg2 P2)
    | (go_at_call 74; refine (KSUM.out _ HO2.out HB2.out).mono ?_; rintro e w' ⟨rfl, hw⟩; obtain rfl := hw.symm; have a2 : Below W2.heap.size W2 (W2.alloc (.cells #[.slice (some ⟨w.heap.size, 0, none⟩) 16 24, .slice (some ⟨R, o, none⟩) n cap] 33)) := (Below.refl _ W2).alloc (Nat.le_refl _) _; have HO3 := hide (HO2.out.below a2 HO2.out.lt); have HB3 := hide (bseq HB2.out a2); clear a2)
    | (go_at_call 73; refine (P3.out _ HO3.out).mono ?_; rintro e W4 ⟨rfl, ho4, hg4⟩; have HO4 := hide ho4; have HB4 := hide (bel_of_gr HB3.out hg4 (Nat.le_refl _)); clear ho4 hg4 P3))
  obtain ⟨q1, q2, q3⟩ := E123.out
  have hrow := OwnR.of HO4.out (by rw [List.length_append, List.length_append]; omega)
  have h24 : (l1 ++ (l2 ++ l3)).length = 24 := by rw [List.length_append, List.length_append]; omega
  unfold OwnR at hrow
  rw [h24] at hrow
  have hnews : ∀ j u, (old.map B8)[j]? = some u → W4.cell? ((⟨R, o, none⟩ : Addr).add j) = some u := fun j u hu => by
    rw [List.getElem?_map] at hu
    obtain ⟨x, hx, rfl⟩ := Option.map_eq_some_iff.1 hu
    rw [Addr.add_mid]
    exact (HB4.out.cell hR).trans (HSEG.out j x hx).1
  have HROW := hide hrow
  have HNEWS := hide hnews
  have H24 := hide h24
  have hnl : (old.map B8).length = n * 1 := by rw [List.length_map, HN.out, Nat.mul_one]
  have hsz4 := HB4.out.size
  generalize hhd : l1 ++ (l2 ++ l3) = hd at *
  have HHD := hide hhd
  clear hhd
  clear hrow hnews h24 q1 q2 q3 E123 HA HM KSUM HO1 HO2 HO3 HB1 HB2 HB3 mk s16 b1 b2
  go_upto_region 6 with (at_builtin; refine wpList_append_own_at _ rfl _ _ 33 rfl w.heap.size 5 it (.int .u8 0) 1 1 Try.underlying33 hit hz0 hz1 hz2 rfl (by decide) (.slice (some ⟨w.heap.size, 0, none⟩) 24 24) 24 (hd.map B8) rfl HROW.out ⟨R, o, none⟩ n cap (old.map B8) rfl hnl HNEWS.out (B8_cell old) (by unfold maxLen; omega) (by omega) hsz4 ?_; intro v1 x1 ho3 hg3 hnn hat3; clear hnn hat3; have HO5 := hide ho3; have HB5 := hide (bel_of_grown HB4.out HROW.out hg3); clear ho3 hg3)
  obtain ⟨v1a, v1c, rfl⟩ := own_slice HO5.out
  go_loopw [5] (fun v wr => ∃ (k : Nat) (va : Option Addr) (vc : Nat), v = .slice va (24 + n + k) vc ∧ k ≤ padN n ∧ OwnR wr w.heap.size v (hd ++ (old ++ List.replicate k 0)) ∧ Below w.heap.size w wr) (fun v _ => (24 + n + padN n - (match v with | .slice _ l _ => l | _ => 0)))
  case atStart =>
    refine ⟨0, v1a, v1c, rfl, Nat.zero_le _, ?_, HB5.out⟩
    have h5 := HO5.out
    unfold OwnR
    rw [List.replicate_zero, List.append_nil, List.length_append, H24.out, HN.out, List.map_append]
    exact h5
  case round =>
    obtain ⟨k, va, vc, rfl, hk, hown, hB⟩ := hrel
    have hpm := pad_more hk
    have hpl : padN n < 8 := by unfold padN; omega
    have hbl : (hd ++ (old ++ List.replicate k 0)).length = 24 + n + k := by rw [List.length_append, List.length_append, List.length_replicate, H24.out, HN.out]; omega
    by_cases hlt : k < padN n
    · have hne : ¬ ((24 + n + k : Nat) : Int) % 8 = 0 := by omega
      have hnb : (((24 + n + k : Nat) : Int) % 8 == 0) = false := by simpa using hne
      have ho2 := hown
      unfold OwnR at ho2
      rw [hbl] at ho2
      have hA : Below wr.heap.size wr (wr.alloc (.cells #[.int .u8 0] 5)) := (Below.refl _ wr).alloc (Nat.le_refl _) _
      have ho3 : (wr.alloc (.cells #[.int .u8 0] 5)).ownsRow w.heap.size 5 1 (.slice va (24 + n + k) vc) (24 + n + k) ((hd ++ (old ++ List.replicate k 0)).map B8) := ownsRow_of_block ho2 (fun g hg => by
        obtain ⟨c', hc'⟩ := own_type ho2 hg
        exact hA.block g (lt_of_heap hc'))
      have HO6 := hide ho3
      have HB6 := hide (bseq hB hA)
      have hsz6 : w.heap.size ≤ (wr.alloc (.cells #[.int .u8 0] 5)).heap.size := Nat.le_trans hB.size hA.size
      obtain ⟨NN, hNN⟩ : ∃ NN, 24 + n + k = NN := ⟨_, rfl⟩
      have HNN := hide hNN
      rw [hNN] at HO6 hne hnb hbl ⊢
      have hNl : NN ≤ 5000000 := by omega
      have HBL := hide hbl
      clear hown ho2 ho3 hA hB hpm hNN hbl
      go_wp2_with (at_builtin; refine wpList_append_own_at _ rfl _ _ 33 rfl w.heap.size 5 it (.int .u8 0) 1 1 Try.underlying33 hit hz0 hz1 hz2 rfl (by decide) (.slice va NN vc) NN ((hd ++ (old ++ List.replicate k 0)).map B8) rfl HO6.out ⟨wr.heap.size, 0, none⟩ 1 1 [.int .u8 0] rfl rfl (cell_oneU wr _ _) (by simp [Value.oneCell']) (by unfold maxLen; omega) (by omega) hsz6 ?_; intro v1 x1 ho3 hg3 hnn hat3; clear hnn hat3; have HO7 := hide ho3; have HB7 := hide (bel_of_grown HB6.out HO6.out hg3); clear ho3 hg3)
      obtain ⟨va7, vc7, rfl⟩ := own_slice HO7.out
      go_roundw
      case rel =>
        have e := HNN.out
        refine ⟨k + 1, va7, vc7, by rw [show 24 + n + (k + 1) = NN + 1 by omega], by omega, ?_, HB7.out⟩
        have h5 := HO7.out
        unfold OwnR
        have hb2 : (hd ++ (old ++ List.replicate (k + 1) 0)).length = NN + 1 := by rw [List.length_append, List.length_append, List.length_replicate, H24.out, HN.out]; omega
        have hb3 : (hd ++ (old ++ List.replicate (k + 1) 0)).map B8 = (hd ++ (old ++ List.replicate k 0)).map B8 ++ [.int .u8 0] := by
          rw [List.replicate_succ', ← List.append_assoc old, ← List.append_assoc hd, List.map_append]
          rfl
        rw [hb2, hb3]
        exact h5
      case measure => have e := HNN.out; simp; omega
    · obtain rfl : k = padN n := by omega
      have hne : ((24 + n + padN n : Nat) : Int) % 8 = 0 := by omega
      have hnb : (((24 + n + padN n : Nat) : Int) % 8 == 0) = true := by simpa using hne
      have HO6 := hide hown
      have HB6 := hide hB
      obtain ⟨NN, hNN⟩ : ∃ NN, 24 + n + padN n = NN := ⟨_, rfl⟩
      rw [hNN] at hne hnb HO6 ⊢
      have hNl : NN ≤ 5000000 := by omega
      clear hown hB hpm hNN hbl
      go_wp2
      go_ret
      exact ⟨_, rfl, by rw [HHD.out]; exact HO6.out, HB6.out⟩
end Go.Proofs.Ytgfgihpkbbjkfaa
namespace Go.Proofs.Ytgfgihpkbbjkfaa
open Go.RowKit Go.Shelf
set_option linter.unusedVariables false
set_option maxRecDepth 100000

/-- A row of extents. -/
def SlE (w : World) (a : Option Addr) (xs : List (Int × Int)) : Prop := (∀ x ∈ xs, (-9223372036854775808 ≤ x.1 ∧ x.1 ≤ 9223372036854775807) ∧ (-9223372036854775808 ≤ x.2 ∧ x.2 ≤ 9223372036854775807)) ∧ (xs = [] ∨ ∃ g o c, a = some ⟨g, o, none⟩ ∧ w.heap[g]? = some (.cells c 52 (0, 0)) ∧ ∀ (i : Nat) (x l : Int), xs[i]? = some (x, l) → c[o + i * 2]? = some (.int .i64 x) ∧ c[o + i * 2 + 1]? = some (.int .i64 l))
theorem ext_nd : NDt 52 := ⟨by decide, by decide, by decide, by decide, by decide, by decide⟩
theorem SlE.below {w w' : World} {a : Option Addr} {xs : List (Int × Int)} (h : SlE w a xs) (hB : Below w.heap.size w w') : SlE w' a xs := by
  refine ⟨h.1, h.2.imp id ?_⟩
  rintro ⟨g, o, c, h1, h2, h3⟩
  exact ⟨g, o, c, h1, (hB.block g (lt_of_heap h2)).trans h2, h3⟩
theorem SlE.atd {w w' : World} {b m : Nat} {L : Lay} {σ s : St} {a : Option Addr} {xs : List (Int × Int)} (h : SlE w a xs) (hd : DevL w b L σ) (ha : Atd w b L σ w' s m) : SlE w' a xs := by
  refine ⟨h.1, h.2.imp id ?_⟩
  rintro ⟨g, o, c, h1, h2, h3⟩
  exact ⟨g, o, c, h1, ha.kept hd h2 ext_nd, h3⟩
theorem SlE.at {w : World} {a : Option Addr} {xs : List (Int × Int)} (h : SlE w a xs) {i : Nat} {x l : Int} (hi : xs[i]? = some (x, l)) : ∃ g o, a = some ⟨g, o, none⟩ ∧ w.cell? ⟨g, o + i * 2, none⟩ = some (.int .i64 x) ∧ w.cell? ⟨g, o + i * 2 + 1, none⟩ = some (.int .i64 l) := by
  rcases h.2 with h0 | ⟨g, o, c, h1, h2, h3⟩
  · rw [h0] at hi; cases hi
  · obtain ⟨q1, q2⟩ := h3 i x l hi
    exact ⟨g, o, h1, (cell8 h2 _).trans q1, (cell8 h2 _).trans q2⟩
theorem index_ext (g o i len cap : Nat) (hi : i < len) (w : World) : (Instr.indexAt 22 (.slice (some ⟨g, o, none⟩) len cap) (.int .i64 (i : Int))).run Try.prog w = .ok (.pointer (some ⟨g, o + i * 2, none⟩)) w :=
  index_at (t := 22) (e := 52) (sz := 2) Try.underlying22 (by kernel_rfl) g o i len cap hi w
def I8 (z : Int) : Value := .int .i64 z
theorem infoI8 : ∃ i, Try.prog.info? 3 = some i ∧ i.zero = some (.int .i64 0) ∧ i.size = 1 ∧ i.bytes = 8 := by
  have h : (Try.prog.info? 3).map (fun i => (i.zero, i.size, i.bytes)) = some (some (.int .i64 0), 1, 8) := by kernel_rfl
  cases hq : Try.prog.info? 3 with
  | none => rw [hq] at h; cases h
  | some i => rw [hq] at h; simp at h; exact ⟨i, rfl, h.1, h.2.1, h.2.2⟩
def allMay (a z N : Nat) (xs : List (Int × Int)) : Bool := xs.all (fun x => mayV a z N x.1 x.2)
/-- What need answers. -/
def needX (a z N : Nat) (xs : List (Int × Int)) : Int × Int :=
  if allMay a z N xs = true then (if (needV 0 (xs.map Prod.snd)).2 ≠ 0 ∨ (z : Int) - 64 < (needV 0 (xs.map Prod.snd)).1 then (0, 111) else ((needV 0 (xs.map Prod.snd)).1, 0)) else (0, 6)
theorem allMay_no {a z N : Nat} {xs : List (Int × Int)} {i : Nat} {x l : Int} (hi : xs[i]? = some (x, l)) (h : mayV a z N x l = false) : allMay a z N xs = false := by
  unfold allMay
  refine Bool.eq_false_iff.2 fun ht => ?_
  have := List.all_eq_true.1 ht (x, l) (List.mem_of_getElem? hi)
  simp only at this
  rw [h] at this
  cases this
theorem allMay_yes {a z N : Nat} {xs : List (Int × Int)} (h : ∀ (i : Nat) (x l : Int), xs[i]? = some (x, l) → mayV a z N x l = true) : allMay a z N xs = true := by
  unfold allMay
  refine List.all_eq_true.2 fun x hx => ?_
  obtain ⟨i, hi⟩ := List.getElem?_of_mem hx
  exact h i x.1 x.2 hi
theorem needV_b : ∀ (zs : List Int) (s : Int), 0 ≤ s → s ≤ 9223372036854775807 → 0 ≤ (needV s zs).1 ∧ (needV s zs).1 ≤ 9223372036854775807
  | [], s, h0, h1 => ⟨h0, h1⟩
  | n :: t, s, h0, h1 => by
    unfold needV
    split
    · simp
    · rename_i hc
      have h2 : (roundV n 8).2 = 0 := by
        refine Classical.byContradiction fun h => hc (.inr (.inl h))
      have h3 : ¬ n < 1 := fun h => hc (.inl h)
      have h4 : ¬ 9223372036854775783 - s < (roundV n 8).1 := fun h => hc (.inr (.inr h))
      rcases roundV_ge n h2 with ⟨h5, h6, h7⟩ | h5
      · exact needV_b t _ (by omega) (by omega)
      · exfalso
        unfold roundV at h2 h4
        rw [if_neg (by omega)] at h2 h4
        split at h4
        · simp at h4; omega
        · split at h4
          · rename_i q1 q2
            rw [if_neg q1, if_pos q2] at h2
            simp at h2
          · rename_i q1 q2
            simp at h4
            omega
set_option maxHeartbeats 1000000 in
theorem lneed_any {w : World} {g b a z : Nat} {L : Lay} {σ : St} {ea : Option Addr} {xs : List (Int × Int)} (cap m : Nat) (h : LogL w g b a z) (hd : DevL w b L σ) (hmx : σ.n ≤ 65536) (haz : a + z ≤ 4194304) (hz : 64 ≤ z) (he : SlE w ea xs) (hm : xs.length = m) (hl : m ≤ 8796093022208) :
    Calls Try.prog 30 #[.pointer (some ⟨g, 0, none⟩), .slice ea m cap] w fun e w' => e = .returned (.tuple #[.int .i64 (needX a z σ.n xs).1, .int .i64 (needX a z σ.n xs).2]) ∧ Below w.heap.size w w' := by
  obtain ⟨i0, hi0, hz0, hz1, hz2⟩ := infoI8
  have hmk : ∀ w : World, Sem.run Try.prog (Instr.makeSlice 87 (.int .i64 0) (.int .i64 (m : Int))) w = .ok (.slice (some ⟨w.heap.size, 0, none⟩) 0 m) (w.alloc (.cells (madeCells #[.int .i64 0] m) 3)) := fun w => by
    have h := run_make (P := Try.prog) w 87 3 i0 (.int .i64 0) Try.underlying87 hi0 hz0 .i64 .i64 0 m (by omega) (by omega) (by rw [hz2]; omega) (by omega)
    simp only [Int.toNat_zero, Int.toNat_natCast, hz1, Nat.mul_one] at h
    exact h
  have hO : (w.alloc (.cells (madeCells #[.int .i64 0] m) 3)).ownsRow w.heap.size 3 1 (.slice (some ⟨w.heap.size, 0, none⟩) 0 m) 0 [] :=
    World.ownsRow_made w _ m (Nat.le_refl _) (by unfold maxLen; omega) (by simp [size_madeCells])
  have hB : Below w.heap.size w (w.alloc (.cells (madeCells #[.int .i64 0] m) 3)) := (Below.refl _ _).alloc (Nat.le_refl _) _
  have hmk0 := hmk w
  generalize madeCells #[.int .i64 0] m = MC at *
  obtain ⟨V, hV⟩ : ∃ V, needX a z σ.n xs = V := ⟨_, rfl⟩
  rw [hV]
  have HV := hide hV
  have HL := hide h
  have HE := hide he
  have HM := hide hm
  have KM := hide (fun W (hB : Below w.heap.size w W) (x l : Int) (hx) (hl) => lmay_any x l (h.below hB) (hd.below hB) hmx haz hx hl)
  have KN := hide (fun (W : World) (v : Option Addr) (c : Nat) (zs : List Int) (hz : SlZ W v zs) (hzl : zs.length = m) => need_any c m hz hzl (by omega))
  have HO := hide hO
  have HB := hide hB
  have mI : (m : Int) ≤ 8796093022208 := by omega
  have hnv := needV_b (xs.map Prod.snd) 0 (by omega) (by omega)
  have HNV := hide hnv
  clear h hd he hm hO hB hV hmk hnv
  go_enter Try.func30, Try.ntmps30
  go_wp2
  clear hmk0
  go_loopw [6, 16] (fun lv iv wr => ∃ (j : Nat) (lc : Nat) (la : Option Addr), iv = .int .i64 (j : Int) ∧ lv = .slice la j lc ∧ j ≤ m ∧ wr.ownsRow w.heap.size 3 1 lv j (((xs.map Prod.snd).take j).map I8) ∧ Below w.heap.size w wr ∧ ∀ (i : Nat) (x l : Int), i < j → xs[i]? = some (x, l) → mayV a z σ.n x l = true) (fun lv iv _ => (m - (intOf iv).toNat))
  case atStart => exact ⟨0, m, _, rfl, rfl, Nat.zero_le _, HO.out, HB.out, fun i x l hi => by omega⟩
  case round =>
    obtain ⟨j, lc, la, rfl, rfl, hj, hown, hB, hall⟩ := hrel
    have HALL := hide hall
    clear hall
    by_cases hlt : j < m
    · obtain ⟨⟨x, l⟩, hx⟩ : ∃ x, xs[j]? = some x := ⟨_, List.getElem?_eq_getElem (by rw [HM.out]; exact hlt)⟩
      obtain ⟨eg, eo, hea, hc0, hc1⟩ := (HE.out.below hB).at hx
      subst hea
      have hxb := HE.out.1 _ (List.mem_of_getElem? hx)
      have ix := fun X => index_ext eg eo j m cap hlt X
      have jI : (j : Int) < (m : Int) := by omega
      have hB1 : Below wr.heap.size wr (wr.alloc (.cells #[.int .i64 x, .int .i64 l] 52)) := (Below.refl _ wr).alloc (Nat.le_refl _) _
      have hbw := bseq hB hB1
      have KMx := hide (KM.out _ hbw x l hxb.1 hxb.2)
      have HX := hide hx
      have hnew := heap_alloc_new wr (.cells #[.int .i64 x, .int .i64 l] 52)
      have HNEW := hide hnew
      have HOWN := hide hown
      have HBW := hide hbw
      have HB1 := hide hB1
      obtain ⟨mv, hmv⟩ : ∃ mv, mayV a z σ.n x l = mv := ⟨_, rfl⟩
      rw [hmv] at KMx
      clear hown hB hbw hB1 hnew hx hxb
      cases mv with
      | false =>
        have e : V = (0, 6) := by
          rw [← HV.out]
          unfold needX
          rw [allMay_no HX.out hmv]
          rfl
        subst e
        go_wp2_with (go_at_call 53; refine (KMx.out).mono ?_; rintro e W1 ⟨rfl, hb⟩; have HW1 := hide (bseq HBW.out hb); clear hb)
        go_ret2
        exact ⟨rfl, HW1.out⟩
      | true =>
        go_upto_region 7 with (go_at_call 53; refine (KMx.out).mono ?_; rintro e W1 ⟨rfl, hb⟩; have HW1 := hide (bseq HBW.out hb); have HW0 := hide (bseq HB1.out hb); have HR := hide (row_keepU HNEW.out hb); clear hb)
        have c1 : W1.cell? ⟨wr.heap.size, 1, none⟩ = some (.int .i64 l) := cell8 HR.out 1
        have hA2 : Below W1.heap.size W1 (W1.alloc (.cells #[.int .i64 l] 3)) := (Below.refl _ W1).alloc (Nat.le_refl _) _
        have ho2 : (W1.alloc (.cells #[.int .i64 l] 3)).ownsRow w.heap.size 3 1 (.slice la j lc) j (((xs.map Prod.snd).take j).map I8) := ownsRow_of_block HOWN.out (fun g hg => by
          obtain ⟨c', hc'⟩ := own_type HOWN.out hg
          exact (bseq HW0.out hA2).block g (lt_of_heap hc'))
        have hts : ((xs.map Prod.snd).take (j + 1)).map I8 = ((xs.map Prod.snd).take j).map I8 ++ [.int .i64 l] := by
          rw [List.take_add_one, List.getElem?_map, HX.out]
          simp [I8]
        have HTS := hide hts
        have HO2 := hide ho2
        have HB2 := hide (bseq HW1.out hA2)
        have HMV := hide hmv
        have hsz : w.heap.size ≤ (W1.alloc (.cells #[.int .i64 l] 3)).heap.size := HB2.out.size
        clear ho2 hts hA2 hmv
        go_wp2_with (at_builtin; refine wpList_append_own_at _ rfl _ _ 87 rfl w.heap.size 3 i0 (.int .i64 0) 1 8 Try.underlying87 hi0 hz0 hz1 hz2 rfl (by decide) (.slice la j lc) j (((xs.map Prod.snd).take j).map I8) rfl HO2.out ⟨W1.heap.size, 0, none⟩ 1 1 [.int .i64 l] rfl rfl (cell_oneU W1 _ _) (by simp [Value.oneCell']) (by unfold maxLen; omega) (by omega) hsz ?_; intro v1 x1 ho3 hg3 hnn hat3; clear hnn hat3; have HO3 := hide ho3; have HG3 := hide hg3; clear ho3 hg3)
        obtain ⟨la3, lc3, rfl⟩ := own_slice HO3.out
        go_roundw
        case rel =>
          refine ⟨j + 1, lc3, la3, int_congrP (by omega), rfl, by omega, by rw [HTS.out]; exact HO3.out, ?_, fun i x' l' hi hx' => ?_⟩
          · have h8 := HG3.out
            have h9 := HB2.out
            refine ⟨h8.os.trans h9.os, h8.tape.trans h9.tape, h8.output.trans h9.output, Nat.le_trans h9.size h8.size, fun k hk => (h8.block k (Nat.lt_of_lt_of_le hk h9.size) (fun e => ?_)).trans (h9.block k hk)⟩
            rcases HO2.out.2 with ⟨e1, _⟩ | ⟨g', cap', cur, e1, e2, _⟩
            · rw [e1] at e; cases e
            · rw [e1] at e; cases e; exact absurd hk (Nat.not_lt.2 e2)
          · by_cases e : i = j
            · subst e
              rw [HX.out] at hx'
              cases hx'
              exact HMV.out
            · exact HALL.out i x' l' (by omega) hx'
        case measure => simp [intOf]; omega
    · have jI : ¬ (j : Int) < (m : Int) := by omega
      obtain rfl : j = m := by omega
      have hfull : (xs.map Prod.snd).take j = xs.map Prod.snd := List.take_of_length_le (by rw [List.length_map, HM.out]; exact Nat.le_refl _)
      rw [hfull] at hown
      have hyes := allMay_yes (a := a) (z := z) (N := σ.n) (xs := xs) (fun i x l hx => HALL.out i x l (by have := (List.getElem?_eq_some_iff.1 hx).1; have := HM.out; omega) hx)
      have hsz : SlZ wr la (xs.map Prod.snd) := by
        refine ⟨fun zv hzv => ?_, ?_⟩
        · obtain ⟨p, hp, rfl⟩ := List.mem_map.1 hzv
          exact (HE.out.1 p hp).2
        · rcases hown.2 with ⟨e1, e2⟩ | ⟨g', cap', cur, e1, e2, e3, e4, e5, e6, e7⟩
          · left
            refine List.eq_nil_of_length_eq_zero ?_
            rw [List.length_map, HM.out]
            exact e2
          · right
            cases e1
            refine ⟨g', 0, rfl, lt_of_heap e3, fun i zv hi => ?_⟩
            rw [Nat.zero_add, cell8 e3]
            have h9 : (cur.toList.take (j * 1))[i]? = some (.int .i64 zv) := by rw [e7, List.getElem?_map, hi]; rfl
            rw [List.getElem?_take] at h9
            split at h9
            · simpa using h9
            · cases h9
      have KNx := hide (KN.out wr la lc (xs.map Prod.snd) hsz (by rw [List.length_map]; exact HM.out))
      have KE := hide (lend_any (HL.out.below hB) haz)
      have KR := hide (lroom_any (HL.out.below (bseq hB (Below.refl _ wr).drew)) (by omega))
      have hB' := hB
      have hv := HV.out
      unfold needX at hv
      rw [hyes] at hv
      simp only [if_true] at hv
      obtain ⟨nb0, nb1⟩ := HNV.out
      obtain ⟨r, c, hrc⟩ : ∃ r c, needV 0 (xs.map Prod.snd) = (r, c) := ⟨_, _, rfl⟩
      rw [hrc] at hv KNx nb0 nb1
      simp only at hv nb0 nb1
      have HVV := hide hv
      have HB' := hide hB
      have wm : IntKind.i64.wrap (((a + z : Nat) : Int) - ((a + 64 : Nat) : Int)) = (z : Int) - 64 := by rw [IntKind.wrap_i64]; omega
      clear hown hyes hsz hB hB' hv hfull
      by_cases q1 : c = 0
      · subst q1
        by_cases q2 : (z : Int) - 64 < r
        · have e := HVV.out
          rw [if_pos (.inr q2)] at e
          subst e
          go_wp2_with (first | (go_at_call 54; refine (KNx.out).mono ?_; rintro e w' ⟨rfl, hw⟩; obtain rfl := hw.symm) | (go_at_call 55; refine (KE.out).mono ?_; rintro e w' ⟨rfl, hw⟩; obtain rfl := hw.symm) | (go_at_call 33; refine (KR.out).mono ?_; rintro e w' ⟨rfl, hw⟩; obtain rfl := hw.symm))
          go_ret2
          exact ⟨rfl, HB'.out.drew⟩
        · have e := HVV.out
          rw [if_neg (by simp; omega)] at e
          subst e
          go_wp2_with (first | (go_at_call 54; refine (KNx.out).mono ?_; rintro e w' ⟨rfl, hw⟩; obtain rfl := hw.symm) | (go_at_call 55; refine (KE.out).mono ?_; rintro e w' ⟨rfl, hw⟩; obtain rfl := hw.symm) | (go_at_call 33; refine (KR.out).mono ?_; rintro e w' ⟨rfl, hw⟩; obtain rfl := hw.symm))
          go_ret2
          exact ⟨rfl, HB'.out.drew⟩
      · have e := HVV.out
        rw [if_pos (.inl q1)] at e
        subst e
        have hcb : (c == 0) = false := by simpa using q1
        go_wp2_with (first | (go_at_call 54; refine (KNx.out).mono ?_; rintro e w' ⟨rfl, hw⟩; obtain rfl := hw.symm))
        go_ret2
        exact ⟨rfl, HB'.out⟩
end Go.Proofs.Ytgfgihpkbbjkfaa
namespace Go.Proofs.Ytgfgihpkbbjkfaa
open Go.RowKit Go.Shelf
set_option linter.unusedVariables false

/-- Bytes that words leave do not hang on losses that wait. -/
theorem writeG_same (bs : List Nat) (at_ : Nat) : ∀ (nos : List Nat) (σ τ : St), σ.n = τ.n → σ.bytes = τ.bytes → σ.past = τ.past → (writeG bs at_ σ nos).bytes = (writeDo bs at_ τ nos).bytes
  | [], σ, τ, _, h, _ => h
  | no :: nos, σ, τ, h1, h2, h3 => by
    have e1 : (wordG bs at_ σ no).n = (wordDo bs at_ τ no).n := h1
    have hl : ∀ i, σ.line i = τ.line i := fun i => by unfold St.line; rw [h2]
    have e2 : (wordG bs at_ σ no).bytes = (wordDo bs at_ τ no).bytes := by
      show (wordDo bs at_ σ no).bytes = _
      unfold wordDo
      simp only [St.put, hl, h2]
    have e3 : (wordG bs at_ σ no).past = (wordDo bs at_ τ no).past := by
      show (wordDo bs at_ σ no).past = _
      unfold wordDo
      simp only [St.put, hl, h3]
    exact writeG_same bs at_ nos _ _ e1 e2 e3
theorem writeG_bytes {bs : List Nat} {at_ : Nat} (hbs : ∀ x ∈ bs, x < 256) {σ : St} (hok : σ.Ok) (hlen : at_ + bs.length ≤ 64 * σ.n) (hops : σ.ops + 600000 ≤ 1400000000000) : (writeG bs at_ σ (wordsOf at_ bs.length)).bytes = splice σ.bytes at_ bs := by
  rw [writeG_same bs at_ _ σ σ rfl rfl rfl]
  exact store_bytes hbs hok hlen hops
theorem fls_bytes : ∀ (ls : List Nat) (σ : St), (acts (fls ls) σ).bytes = σ.bytes
  | [], σ => rfl
  | i :: ls, σ => by
    show (acts (fls ls) (tick (flA σ i))).bytes = _
    rw [fls_bytes ls]
    rfl
theorem fn_bytes (σ : St) : (acts [fnA] σ).bytes = σ.bytes := rfl
/-- How long a record is. -/
def rlen (l : Nat) : Nat := 24 + (l + padN l)
def oldOf (B : List Nat) (x : Int × Int) : List Nat := (B.drop x.1.toNat).take x.2.toNat
def recOf (B : List Nat) (x : Int × Int) : List Nat := recB x.1.toNat (oldOf B x)
/-- The operations of records, one behind the other. -/
def recsF (B : List Nat) : Nat → List (Int × Int) → List (St → St)
  | _, [] => []
  | at_, x :: t => wds (recOf B x) at_ (wordsOf at_ (recOf B x).length) ++ recsF B (at_ + (recOf B x).length) t
/-- Their bytes. -/
def recsB (B : List Nat) (xs : List (Int × Int)) : List Nat := xs.flatMap (recOf B)
theorem recsF_snoc (B : List Nat) : ∀ (xs : List (Int × Int)) (at_ : Nat) (x : Int × Int), recsF B at_ (xs ++ [x]) = recsF B at_ xs ++ wds (recOf B x) (at_ + (recsB B xs).length) (wordsOf (at_ + (recsB B xs).length) (recOf B x).length)
  | [], at_, x => by simp [recsF, recsB]
  | y :: t, at_, x => by
    show wds (recOf B y) at_ (wordsOf at_ (recOf B y).length) ++ recsF B (at_ + (recOf B y).length) (t ++ [x]) = _
    rw [recsF_snoc B t]
    have e : at_ + (recOf B y).length + (recsB B t).length = at_ + (recsB B (y :: t)).length := by
      simp [recsB]
      omega
    rw [e]
    show _ = (wds (recOf B y) at_ (wordsOf at_ (recOf B y).length) ++ recsF B (at_ + (recOf B y).length) t) ++ _
    rw [List.append_assoc]
theorem recsF_append (B : List Nat) : ∀ (xs ys : List (Int × Int)) (at_ : Nat), recsF B at_ (xs ++ ys) = recsF B at_ xs ++ recsF B (at_ + (recsB B xs).length) ys
  | [], ys, at_ => by simp [recsF, recsB]
  | y :: t, ys, at_ => by
    show wds (recOf B y) at_ (wordsOf at_ (recOf B y).length) ++ recsF B (at_ + (recOf B y).length) (t ++ ys) = _
    rw [recsF_append B t]
    have e : at_ + (recOf B y).length + (recsB B t).length = at_ + (recsB B (y :: t)).length := by
      simp [recsB]
      omega
    rw [e]
    show _ = (wds (recOf B y) at_ (wordsOf at_ (recOf B y).length) ++ recsF B (at_ + (recOf B y).length) t) ++ _
    rw [List.append_assoc]
/-- What an extent must be, that its bytes lie on the device and beside the log. -/
def Fine (a z N : Nat) (x : Int × Int) : Prop := 64 ≤ x.1 ∧ 1 ≤ x.2 ∧ x.1 + x.2 ≤ ((64 * N : Nat) : Int) ∧ (x.1 + x.2 ≤ (a : Int) ∨ ((a + z : Nat) : Int) ≤ x.1)
theorem fine_of {a z N : Nat} {x l : Int} (haz : a + z ≤ 64 * N) (ha : 64 ≤ a) (h : mayV a z N x l = true) : Fine a z N (x, l) := by
  unfold mayV wthV at h
  simp only [Bool.or_eq_true, decide_eq_true_eq] at h
  unfold Fine
  rcases h with ⟨h1, h2, h3⟩ | ⟨h1, h2, h3⟩
  · exact ⟨h1, h2, by simp only; omega, .inl (by simp only; omega)⟩
  · refine ⟨by simp only; omega, h2, by simp only; omega, .inr h1⟩
theorem fine_old {a z N : Nat} {x : Int × Int} {B : List Nat} (h : Fine a z N x) (hB : B.length = 64 * N) : (oldOf B x).length = x.2.toNat := by
  obtain ⟨h1, h2, h3, _⟩ := h
  unfold oldOf
  rw [List.length_take, List.length_drop]
  omega
theorem rec_len {a z N : Nat} {x : Int × Int} {B : List Nat} (h : Fine a z N x) (hB : B.length = 64 * N) : (recOf B x).length = rlen x.2.toNat := by
  unfold recOf rlen
  rw [recB_len, fine_old h hB]
theorem rec_lt {x : Int × Int} {B : List Nat} (hb : ∀ y ∈ B, y < 256) : ∀ y ∈ recOf B x, y < 256 :=
  recB_lt _ _ (fun y hy => hb y (List.mem_of_mem_drop (List.mem_of_mem_take hy)))
theorem recs_len {a z N : Nat} {B : List Nat} (hB : B.length = 64 * N) : ∀ xs : List (Int × Int), (∀ x ∈ xs, Fine a z N x) → (recsB B xs).length = (xs.map (fun x => rlen x.2.toNat)).sum
  | [], _ => rfl
  | x :: t, h => by
    have e : recsB B (x :: t) = recOf B x ++ recsB B t := rfl
    rw [e, List.length_append, rec_len (h x (by simp)) hB, recs_len hB t (fun y hy => h y (by simp [hy]))]
    simp
theorem roundV_pad {l : Int} (h1 : 1 ≤ l) (h2 : l ≤ 4194304) : roundV l 8 = (((l.toNat + padN l.toNat : Nat) : Int), 0) := by
  unfold roundV padN
  rw [if_neg (by omega)]
  by_cases h : l % 8 = 0
  · rw [if_pos h]
    congr 1
    omega
  · rw [if_neg h, if_neg (by omega)]
    congr 1
    omega
theorem needV_sum : ∀ (zs : List Int) (s : Int), (needV s zs).2 = 0 → (∀ l ∈ zs, 1 ≤ l ∧ l ≤ 4194304) → (needV s zs).1 = s + (((zs.map (fun l => rlen l.toNat)).sum : Nat) : Int)
  | [], s, _, _ => by simp [needV]
  | l :: t, s, h, hb => by
    obtain ⟨h1, h2⟩ := hb l (by simp)
    have hr := roundV_pad h1 h2
    unfold needV at h ⊢
    split at h
    · simp at h
    · rename_i hc
      rw [if_neg hc, needV_sum t _ h (fun l hl => hb l (by simp [hl])), hr]
      simp [rlen]
      omega
/-- The log's own bytes may change; others stay. -/
theorem splice_out {B c : List Nat} {at_ p n : Nat} (h : at_ + c.length ≤ B.length) (hp : p + n ≤ at_ ∨ at_ + c.length ≤ p) : ((splice B at_ c).drop p).take n = (B.drop p).take n := by
  refine List.ext_getElem? fun i => ?_
  rw [List.getElem?_take, List.getElem?_take]
  split
  · rw [List.getElem?_drop, List.getElem?_drop, splice_get _ _ _ _ h]
    rcases hp with hp | hp
    · rw [if_pos (by omega)]
    · rw [if_neg (by omega), if_neg (by omega)]
  · rfl
theorem splice_on {B c d : List Nat} {at_ : Nat} (h : at_ + (c.length + d.length) ≤ B.length) : splice (splice B at_ c) (at_ + c.length) d = splice B at_ (c ++ d) := by
  have hl : (splice B at_ c).length = B.length := length_splice _ _ _ (by omega)
  refine List.ext_getElem? fun i => ?_
  rw [splice_get _ _ _ _ (by omega), splice_get _ _ _ _ (by omega), splice_get _ _ _ _ (by rw [List.length_append]; omega), List.length_append]
  by_cases h1 : i < at_
  · rw [if_pos (by omega), if_pos h1, if_pos h1]
  · by_cases h2 : i < at_ + c.length
    · rw [if_pos h2, if_neg h1, if_pos h2, if_neg h1, if_pos (by omega), List.getElem?_append_left (by omega)]
    · rw [if_neg h2, if_neg h1, if_neg h2, if_neg h1]
      by_cases h3 : i < at_ + c.length + d.length
      · rw [if_pos h3, if_pos (by omega), List.getElem?_append_right (by omega)]
        congr 1
        omega
      · rw [if_neg h3, if_neg (by omega)]
/-- What the first records leave. -/
structure Recs (a N : Nat) (B : List Nat) (xs : List (Int × Int)) (σ s : St) : Prop where
  like : LikeG σ s (recsF B (a + 64) xs).length
  bytes : s.bytes = splice B (a + 64) (recsB B xs)
  run : s = acts (recsF B (a + 64) xs) σ
theorem wordsOf_few {at_ n : Nat} (h : at_ + n ≤ 4194304) : (wordsOf at_ n).length ≤ n := by
  rw [wordsOf_eq at_ n h]
  split
  · simp
  · simp
    omega
theorem Recs.next {a z N : Nat} {B : List Nat} {xs : List (Int × Int)} {x : Int × Int} {σ s : St} (hσ : σ.Ok) (hN : σ.n = N) (hBl : B = σ.bytes) (h : Recs a N B xs σ s) (hx : ∀ y ∈ xs ++ [x], Fine a z N y) (hroom : (recsB B (xs ++ [x])).length ≤ z - 64) (hz : 64 ≤ z) (haz : a + z ≤ 64 * N) (hops : σ.ops + 10000000 ≤ 1400000000000) (hlen : (recsF B (a + 64) xs).length ≤ 4194304) :
    Recs a N B (xs ++ [x]) σ (acts (wds (recOf B x) (a + 64 + (recsB B xs).length) (wordsOf (a + 64 + (recsB B xs).length) (recOf B x).length)) s) ∧ (recsF B (a + 64) (xs ++ [x])).length ≤ (recsF B (a + 64) xs).length + (recOf B x).length := by
  have hmx := hσ.max
  have hB64 : B.length = 64 * N := by rw [hBl, hσ.len, hN]
  have e0 : recsB B (xs ++ [x]) = recsB B xs ++ recOf B x := by simp [recsB]
  rw [e0, List.length_append] at hroom
  have hb256 : ∀ y ∈ B, y < 256 := by rw [hBl]; exact hσ.byte
  have l1 := h.like.n
  have l2 := h.like.ops
  have hwf := wordsOf_few (at_ := a + 64 + (recsB B xs).length) (n := (recOf B x).length) (by omega)
  have hlk := acts_like (N := N) (wds (recOf B x) (a + 64 + (recsB B xs).length) (wordsOf (a + 64 + (recsB B xs).length) (recOf B x).length)) s (wds_good (rec_lt hb256) (wordsOf_lt (m := N) (by omega) (by omega))) h.like.ok (by omega) (by rw [wds_len]; omega)
  refine ⟨⟨?_, ?_, ?_⟩, ?_⟩
  · rw [recsF_snoc, List.length_append]
    exact like_trans h.like hlk
  · rw [wds_acts, writeG_bytes (rec_lt hb256) h.like.ok (by omega) (by omega), h.bytes, e0]
    exact splice_on (by omega)
  · rw [recsF_snoc, acts_append, ← h.run]
  · rw [recsF_snoc, List.length_append, wds_len]
    omega
theorem Recs.old {a z N : Nat} {B : List Nat} {xs : List (Int × Int)} {x : Int × Int} {σ s : St} (hB : B.length = 64 * N) (h : Recs a N B xs σ s) (hx : Fine a z N x) (hroom : (recsB B xs).length ≤ z - 64) (hz : 64 ≤ z) (haz : a + z ≤ 64 * N) : (s.bytes.drop x.1.toNat).take x.2.toNat = oldOf B x := by
  obtain ⟨h1, h2, h3, h4⟩ := hx
  rw [h.bytes]
  unfold oldOf
  refine splice_out (by omega) ?_
  omega
theorem Recs.start {a N : Nat} {B : List Nat} {σ : St} (hσ : σ.Ok) (hB : B = σ.bytes) : Recs a N B [] σ σ := by
  refine ⟨like_refl hσ, ?_, rfl⟩
  rw [hB]
  simp [recsB, splice]
end Go.Proofs.Ytgfgihpkbbjkfaa
