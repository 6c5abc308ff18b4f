/- Package persist: the lines of a range are flushed. -/
import Derived.Test.YtgfgihpkbbjkfaaPWr
import Derived.Test.YtgfgihpkbbjkfaaPFl
namespace Go.Proofs.Ytgfgihpkbbjkfaa
open Go.RowKit Go.Shelf
set_option linter.unusedVariables false
attribute [local go_sem] Oper.semAt_some

/-- The lines of a range. -/
def linesOf (at_ n : Nat) : List Nat := (unitsV 64 (at_ : Int) (n : Int)).map Int.toNat
def linesDo (σ : St) (ls : List Nat) : St := ls.foldl flushDo σ
theorem linesDo_snoc (σ : St) (ls : List Nat) (i : Nat) : linesDo σ (ls ++ [i]) = flushDo (linesDo σ ls) i := by simp [linesDo]
theorem lines_like : ∀ (ls : List Nat) (σ : St), σ.Ok → σ.ops + ls.length ≤ 1400000000000 → (linesDo σ ls).Ok ∧ (linesDo σ ls).n = σ.n ∧ (linesDo σ ls).ops = σ.ops + ls.length ∧ (linesDo σ ls).arms = σ.arms ∧ (linesDo σ ls).off = σ.off ∧ (linesDo σ ls).bytes = σ.bytes ∧ (linesDo σ ls).past = σ.past ∧ (linesDo σ ls).cnt = σ.cnt
  | [], σ, hok, _ => ⟨hok, rfl, rfl, rfl, rfl, rfl, rfl, rfl⟩
  | i :: ls, σ, hok, h => by
    rw [List.length_cons] at h
    obtain ⟨h1, h2, h3, h4, h5, h6, h7, h8⟩ := lines_like ls (flushDo σ i) (flush_ok hok i (by omega)) (by show σ.ops + 1 + _ ≤ _; omega)
    exact ⟨h1, h2, h3.trans (by show σ.ops + 1 + _ = _; rw [List.length_cons]; omega), h4, h5, h6, h7, h8⟩
theorem unit_told {at_ n N : Nat} {pre : List Int} {x : Int} (hlen : at_ + n ≤ 64 * N) (hN : N ≤ 65536) (hpx : pre ++ [x] <+: unitsV 64 (at_ : Int) (n : Int)) : ∃ no : Nat, x = (no : Int) ∧ no < N ∧ pre.length < 65536 := by
  unfold unitsV at hpx
  split at hpx
  · have := hpx.length_le
    simp at this
  · rename_i hb
    obtain ⟨h1, h2⟩ := prefix_upto hpx
    exact ⟨((at_ : Int) / 64 + pre.length).toNat, by omega, by omega, by omega⟩
/-- A block of a walk's own. -/
theorem Stab.blk {β : Type} {H : TypeId → Prop} {B b : Nat} (o : Obj) (hb : b < B) : Stab H B (fun (_ : β) W => W.heap[b]? = some o) := fun s W W' hJ hs => hs.2 b _ hJ (.inl hb)
theorem blk_foot {w W : World} {b g : Nat} {L : Lay} {σ : St} {t : TypeId} {c : Array Value} {fr : Nat × Nat} (h : DevL W b L σ) (ho : Old w b L) (hb : W.heap[g]? = some (.cells c t fr)) (hg : w.heap.size ≤ g) (ht : ¬ HP t) : ¬ Foot b L σ g := fun hf => by
  rcases foot_cases h ho hf with h1 | ⟨o, h1, ⟨c', t', f', h2, h3⟩ | ⟨es, q, h2⟩⟩
  · omega
  · rw [hb] at h1
    cases h1
    cases h2
    exact ht h3
  · rw [hb] at h1
    cases h1
    cases h2
set_option maxRecDepth 100000 in
set_option maxHeartbeats 1000000 in
theorem qflush_in {w : World} {b at_ n : Nat} {L : Lay} {σ : St} (h : DevL w b L σ) (hok : σ.Ok) (ho : σ.off = false) (hN : L.N ≤ σ.ops) (harm : σ.arms = []) (hlen : at_ + n ≤ 64 * σ.n) (hops : σ.ops + 600000 ≤ 1400000000000) :
    CallsIn Fence.wide 3 Try.prog 58 #[.agg #[.pointer (some ⟨b, 0, none⟩), .int .i64 (at_ : Int), .int .i64 (n : Int)]] w fun e w' => e = .returned (.int .i64 0) ∧ ∃ L', DevL w' b L' (linesDo σ (linesOf at_ n)) ∧ (∀ k, Foot b L' (linesDo σ (linesOf at_ n)) k → Foot b L σ k) ∧ Gr (Foot b L σ) w w' ∧ L'.N ≤ L.N + (linesOf at_ n).length ∧ SameL L L' := by
  have hnm := hok.max
  have hO := h.old_
  refine callsIn_of_wp_marks Try.func58 rfl trivial ?_ rfl
  simp only [Try.ntmps58, List.size_toArray, List.length_cons, List.length_nil, Nat.reduceAdd, Nat.reduceSub, Array.replicate_succ, Array.replicate_zero, List.push_toArray, List.append_toArray, List.nil_append, List.cons_append]
  gi_wp2_with (refine ⟨trivial, ?_⟩; gi_at_call 65; refine (lines_in _ _ trivial rfl (at_ : Int) (n : Int) _).mono ?_; rintro e w' ⟨rfl, rfl⟩)
  have hB0 : Below w.heap.size w ((((w.alloc (.cells #[.pointer (some ⟨b, 0, none⟩), .int .i64 (at_ : Int), .int .i64 (n : Int)] 112)).alloc (.cells #[.int .i64 0] 35)).alloc (.cells #[.int .i64 (at_ : Int)] 3)).alloc (.cells #[.int .i64 (n : Int)] 3)) := ((((Below.refl _ w).alloc (Nat.le_refl _) _).alloc (by simp) _).alloc (by simp; omega) _).alloc (by simp; omega) _
  have hsz : ((((w.alloc (.cells #[.pointer (some ⟨b, 0, none⟩), .int .i64 (at_ : Int), .int .i64 (n : Int)] 112)).alloc (.cells #[.int .i64 0] 35)).alloc (.cells #[.int .i64 (at_ : Int)] 3)).alloc (.cells #[.int .i64 (n : Int)] 3)).heap.size = w.heap.size + 4 := by simp
  have b3 : ((((w.alloc (.cells #[.pointer (some ⟨b, 0, none⟩), .int .i64 (at_ : Int), .int .i64 (n : Int)] 112)).alloc (.cells #[.int .i64 0] 35)).alloc (.cells #[.int .i64 (at_ : Int)] 3)).alloc (.cells #[.int .i64 (n : Int)] 3)).heap[w.heap.size]? = some (.cells #[.pointer (some ⟨b, 0, none⟩), .int .i64 (at_ : Int), .int .i64 (n : Int)] 112 (0, 0)) := by
    rw [Below.heap_alloc _ _ _ (by simp; omega), Below.heap_alloc _ _ _ (by simp; omega), Below.heap_alloc _ _ _ (by simp)]
    exact heap_alloc_new w _
  have b6 := ((Boxed.new (w.alloc (.cells #[.pointer (some ⟨b, 0, none⟩), .int .i64 (at_ : Int), .int .i64 (n : Int)] 112)) 35 (.int .i64 0)).alloc (.cells #[.int .i64 (at_ : Int)] 3)).alloc (.cells #[.int .i64 (n : Int)] 3)
  have b7 := (Boxed.new ((w.alloc (.cells #[.pointer (some ⟨b, 0, none⟩), .int .i64 (at_ : Int), .int .i64 (n : Int)] 112)).alloc (.cells #[.int .i64 0] 35)) 3 (.int .i64 (at_ : Int))).alloc (.cells #[.int .i64 (n : Int)] 3)
  have b8 := Boxed.new (((w.alloc (.cells #[.pointer (some ⟨b, 0, none⟩), .int .i64 (at_ : Int), .int .i64 (n : Int)] 112)).alloc (.cells #[.int .i64 0] 35)).alloc (.cells #[.int .i64 (at_ : Int)] 3)) 3 (.int .i64 (n : Int))
  simp only [World.size_alloc] at b6 b7 b8
  obtain ⟨W0, hW0⟩ : ∃ W0, ((((w.alloc (.cells #[.pointer (some ⟨b, 0, none⟩), .int .i64 (at_ : Int), .int .i64 (n : Int)] 112)).alloc (.cells #[.int .i64 0] 35)).alloc (.cells #[.int .i64 (at_ : Int)] 3)).alloc (.cells #[.int .i64 (n : Int)] 3)) = W0 := ⟨_, rfl⟩
  rw [hW0] at b3 b6 b7 b8 hB0 hsz ⊢
  clear hW0
  have hd0 := h.below hB0
  apply rangeX (gf := 81) (lb := #[.pointer (some ⟨w.heap.size + 1 + 1, 0, none⟩), .pointer (some ⟨w.heap.size + 1 + 1 + 1, 0, none⟩)]) (encs := encI) rfl (enters_of Try.func81 (by kernel_rfl) rfl)
    (lines_x HP (fun k => k = w.heap.size + 1 + 1 ∨ k = w.heap.size + 1 + 1 + 1) (w.heap.size + 1 + 1) (w.heap.size + 1 + 1 + 1) (at_ : Int) (n : Int) W0 (by omega) (by omega) b7.cell b8.cell (by omega) (by omega)) (Below.refl _ _) (fun k hk => by omega) (fun _ => rfl)
    (fun pre W' => (W'.heap[w.heap.size]? = some (.cells #[.pointer (some ⟨b, 0, none⟩), .int .i64 (at_ : Int), .int .i64 (n : Int)] 112 (0, 0)) ∧ (Boxed W' (w.heap.size + 1) 35 (.int .i64 0) ∧ (Boxed W' (w.heap.size + 1 + 1) 3 (.int .i64 (at_ : Int)) ∧ Boxed W' (w.heap.size + 1 + 1 + 1) 3 (.int .i64 (n : Int))))) ∧ (Gr (Foot b L σ) W0 W' ∧ ∃ L', DevL W' b L' (linesDo σ (pre.map Int.toNat)) ∧ (SameL L L' ∧ L'.N ≤ L.N + pre.length ∧ ∀ k, Foot b L' (linesDo σ (pre.map Int.toNat)) k → Foot b L σ k)))
    (fun c pre W' => False)
    (Stab.and (Stab.and (Stab.blk _ (by omega)) (Stab.and (Stab.box _ _ (by omega)) (Stab.and (Stab.box _ _ (by omega)) (Stab.box _ _ (by omega))))) (Stab.and (stab_gr (Nat.le_refl _)) (fun s W W' hJ hs => by obtain ⟨L', h1, h2, h3⟩ := hJ; exact ⟨L', stab_dev (σ := fun _ : Unit => linesDo σ (s.map Int.toNat)) (hO.same h2) (by omega) () W W' h1 hs, h2, h3⟩)))
    (fun c => Stab.pure _)
    ⟨⟨b3, b6, b7, b8⟩, Gr.refl _ _, L, hd0, SameL.refl L, by simp, fun k hk => hk⟩
  case hassign =>
    intro l' x W' K hK
    simp only [encI]
    gi_wp2
    exact hK
  case hbody =>
    rintro l' pre x W ⟨⟨h3, h6, h7, h8⟩, hgW, L', hdW, hsame, hNL, hfoot⟩ hpx
    obtain ⟨no, rfl, hno, hpl⟩ := unit_told hlen hnm hpx
    obtain ⟨k1, k2, k3, k4, k5, _⟩ := lines_like (pre.map Int.toNat) σ hok (by rw [List.length_map]; omega)
    rw [List.length_map] at k3
    have hsn : linesDo σ ((pre ++ [(no : Int)]).map Int.toNat) = flushDo (linesDo σ (pre.map Int.toNat)) no := by rw [List.map_append, List.map_cons, List.map_nil, linesDo_snoc]; rfl
    generalize linesDo σ (pre.map Int.toNat) = σk at *
    have kf := pflush_any hdW k1 (k5.trans ho) (k4.trans harm) (no * 64) (by omega) (by omega) (by omega)
    rw [show no * 64 / 64 = no by omega] at kf
    have e3 : ((no * 64 : Nat) : Int) = (no : Int) * 64 := by omega
    rw [e3] at kf
    have c3 := cell8 h3 0
    have noI : (no : Int) ≤ 65536 := by omega
    have hOL := hO.same hsame
    have n3 := blk_foot hdW hOL h3 (by omega) (by unfold HP; decide)
    have n6 := box_foot hdW hOL h6 (by omega) (by unfold HP; decide)
    have n7 := box_foot hdW hOL h7 (by omega) (by unfold HP; decide)
    have n8 := box_foot hdW hOL h8 (by omega) (by unfold HP; decide)
    have KF := hide kf
    have HD := hide hdW
    have HG := hide hgW
    have HF := hide hfoot
    have HS := hide hsame
    have H3 := hide h3
    have H6 := hide h6
    have H7 := hide h7
    have H8 := hide h8
    have HSN := hide hsn
    have HOL := hide hOL
    have HNL := hide hNL
    clear kf hdW hgW hfoot hsame h3 h6 h7 h8 hsn hpx k1 k2 k3 k4 k5 hNL hOL
    gi_wp2_with (refine ⟨trivial, ?_⟩; gi_at_call 40; refine (inR (KF.out)).mono ?_; rintro e W1 ⟨rfl, L2, hd2, hf2, hg2, hN2, hs2⟩; have HD2 := hide hd2; have HF2 := hide hf2; have HG2 := hide hg2; have HN2 := hide hN2; have HS2 := hide hs2; clear hd2 hf2 hg2 hN2 hs2)
    have hdW := HD.out
    have hOL := HOL.out
    have g1 := HG2.out
    have h2 := HN2.out
    have h3 := HNL.out
    refine ⟨g1.kp (fun k o hk hf => ⟨fun hn => by rcases hn with e | e; exact n7 (e ▸ hf); exact n8 (e ▸ hf), ?_⟩), ⟨(g1.block (lt_of_heap H3.out) n3).trans H3.out, g1.box H6.out n6, g1.box H7.out n7, g1.box H8.out n8⟩, HG.out.trans g1 (fun i hi => .inl (HF.out i hi)), L2, ?_, HS.out.trans HS2.out, ?_, fun k hk => ?_⟩
    · rcases foot_cases hdW hOL hf with h1 | ⟨o', h1, h2⟩
      · exact .inl (by omega)
      · rw [hk] at h1; cases h1; exact .inr h2
    · rw [HSN.out]; exact HD2.out
    · rw [List.length_append, List.length_singleton]; omega
    · rw [HSN.out] at hk
      exact HF.out k (HF2.out k hk)
  case hdone =>
    rintro D W hD ⟨⟨h3, h6, h7, h8⟩, hgW, L', hdW, hsame, hNL, hfoot⟩ hK
    have hOL := hO.same hsame
    have n6 := box_foot hdW hOL h6 (by omega) (by unfold HP; decide)
    have c6 := h6.cell
    have z6 := h6.frozen
    have hl : (unitsV 64 (at_ : Int) (n : Int)).length = (linesOf at_ n).length := by unfold linesOf; rw [List.length_map]
    rw [hl] at hNL
    have hd' : DevL W b L' (linesDo σ (linesOf at_ n)) := hdW
    have hf' : ∀ k, Foot b L' (linesDo σ (linesOf at_ n)) k → Foot b L σ k := hfoot
    have HD := hide hd'
    have HG := hide hgW
    have HF := hide hf'
    have HS := hide hsame
    have HK := hide hK
    have H6 := hide h6
    clear h3 h6 h7 h8 hgW hdW hsame hfoot hK hl hd' hf'
    gi_wp2
    have hne : D ≠ w.heap.size + 1 := by omega
    have hK' : (W.setCell ⟨w.heap.size + 1, 0, none⟩ (.int .i64 0)).heap[D]? = some (.deferred (some [])) := (heap_set_ne W _ 0 D _ hne).trans HK.out
    refine ⟨by simp, .inl ⟨_, _, rfl, run_takeDeferred hK', ?_⟩⟩
    have hd1 : DevL (W.setCell ⟨w.heap.size + 1, 0, none⟩ (.int .i64 0)) b L' (linesDo σ (linesOf at_ n)) := HD.out.keep (fun k hk => heap_set_ne W _ 0 k _ (fun e => n6 (e ▸ hk)))
    have hgr : Gr (Foot b L σ) w ((W.setCell ⟨w.heap.size + 1, 0, none⟩ (.int .i64 0)).putObj D (.deferred none)) := by
      have g1 : Gr (Foot b L σ) w W := (Gr.of_below hB0).trans HG.out (fun i h => .inl h)
      have g2 : Gr (fun k => k = w.heap.size + 1) W (W.setCell ⟨w.heap.size + 1, 0, none⟩ (.int .i64 0)) := Gr.set W _ 0 _ rfl
      have g3 : Gr (fun k => k = D) (W.setCell ⟨w.heap.size + 1, 0, none⟩ (.int .i64 0)) ((W.setCell ⟨w.heap.size + 1, 0, none⟩ (.int .i64 0)).putObj D (.deferred none)) := Gr.of_grown (grownBy_putObj' _ D _) (fun k hk => .inl (by cases hk; rfl))
      exact (g1.trans g2 (fun i h => .inr (by omega))).trans g3 (fun i h => .inr (by omega))
    refine ⟨_, results_boxP rfl _ _ (w.heap.size + 1) _ _ rfl ((World.putObj_heap_other (Ne.symm hne)).trans (H6.out.set _)) (fun _ h => loadE h), rfl, L', hd1.put_ hK' _, HF.out, hgr, hNL, HS.out⟩
  case hstop =>
    rintro D c pre W2 hD _ hF hK
    exact hF.elim
end Go.Proofs.Ytgfgihpkbbjkfaa
