/- Package persist: Publish. -/
import Derived.Test.YtmlhibkofalamaaRRdM
import Derived.Test.YtmlhibkofalamaaPut
import Derived.Test.YtmlhibkofalamaaPWr
import Derived.Test.YtmlhibkofalamaaPFl
import Derived.Test.YtmlhibkofalamaaPFrm
import Derived.Test.YtmlhibkofalamaaPFnW
import Derived.Test.YtmlhibkofalamaaPLd
import Derived.Test.YtmlhibkofalamaaPSt
import Derived.Test.YtmlhibkofalamaaPNew
namespace Go.Proofs.Ytmlhibkofalamaa
open Go.RowKit Go.Shelf
set_option linter.unusedVariables false

theorem rinside9 {w : World} {b : Nat} {M : RLay} {ρ : RSt} (h : RefL w b M ρ) (hn : ρ.n ≤ 65536) (at_ n : Nat) (hl : at_ + n ≤ 64 * ρ.n) : Calls Try.prog 63 #[.pointer (some ⟨b, 0, none⟩), .int .i64 (at_ : Int), .int .i64 (n : Int)] w fun e w' => e = .returned (.bool true) ∧ w' = w := by
  have c0 : w.cell? ⟨b, 0, none⟩ = some (.int .i64 ((64 * ρ.n : Nat) : Int)) := h.c 0
  obtain ⟨N, hN⟩ : ∃ N, N = 64 * ρ.n := ⟨_, rfl⟩
  rw [← hN] at c0 hl
  have hN2 : N ≤ 4194304 := by omega
  have i1 : (at_ : Int) ≤ (N : Int) := by omega
  have i2 : (n : Int) ≤ (N : Int) - (at_ : Int) := by omega
  have i3 : ¬ (at_ : Int) < 0 := by omega
  clear h hN hl
  go_enter Try.func63, Try.ntmps63
  go_wp2
  go_ret
  exact ⟨rfl, rfl⟩
theorem index_byR (g o i len cap : Nat) (hi : i < len) (w : World) : (Instr.indexAt 22 (.slice (some ⟨g, o, none⟩) len cap) (.int .i64 (i : Int))).run Try.prog w = .ok (.pointer (some ⟨g, o + i, none⟩)) w := by
  have h := index_at (t := 22) (e := 5) (sz := 1) Try.underlying22 (by kernel_rfl) g o i len cap hi w
  rwa [Nat.mul_one] at h
theorem rnumber {w : World} {g o len cap : Nat} {ys : List Nat} (hlen : len = 8) (hl : ys.length = 8) (hb : ∀ x ∈ ys, x < 256) (hc : ∀ (j x : Nat), ys[j]? = some x → w.cell? ⟨g, o + j, none⟩ = some (.int .u8 (x : Int))) : Calls Try.prog 64 #[.slice (some ⟨g, o, none⟩) len cap] w fun e w' => e = .returned (.int .u64 ((leV ys : Nat) : Int)) ∧ w' = w := by
  have h8 : 8 ≤ len := by omega
  subst hlen
  have HL := hide hl
  have HB := hide hb
  have HC := hide hc
  obtain ⟨r, hr⟩ : ∃ r, leV ys = r := ⟨_, rfl⟩
  rw [hr]
  have HR := hide hr
  clear hl hb hc hr
  go_enter Try.func64, Try.ntmps64
  go_wp2
  go_loopw [3, 4] (fun vv iv wr => ∃ q v : Nat, q ≤ 8 ∧ iv = .int .i64 ((q : Int) - 1) ∧ vv = .int .u64 (v : Int) ∧ v = leV ((ys.drop q).take (8 - q)) ∧ wr = w) (fun _ iv _ => (intOf iv + 1).toNat)
  case atStart => exact ⟨8, 0, Nat.le_refl _, rfl, rfl, by simp [leV], rfl⟩
  case round =>
    obtain ⟨q, v, hq, rfl, rfl, hv, rfl⟩ := hrel
    cases q with
    | zero =>
      have hvr : v = r := by rw [hv, ← HR.out, List.drop_zero, List.take_of_length_le (by rw [HL.out]; omega)]
      subst hvr
      clear hv
      go_wp2
      go_ret
      exact ⟨rfl, rfl⟩
    | succ i =>
      obtain ⟨x, hx⟩ : ∃ x, ys[i]? = some x := ⟨_, List.getElem?_eq_getElem (by rw [HL.out]; omega)⟩
      have hcx := HC.out i x hx
      have hx2 := HB.out x (List.mem_of_getElem? hx)
      have hst := leV_step ys i (8 - (i + 1)) x hx
      have hvb : v < 72057594037927936 := by
        rw [hv]
        have h1 := leV_lt ((ys.drop (i + 1)).take (8 - (i + 1))) (fun y hy => HB.out y (List.mem_of_mem_drop (List.mem_of_mem_take hy)))
        have h2 : ((ys.drop (i + 1)).take (8 - (i + 1))).length ≤ 7 := by rw [List.length_take]; omega
        have h3 : 256 ^ ((ys.drop (i + 1)).take (8 - (i + 1))).length ≤ 256 ^ 7 := Nat.pow_le_pow_right (by omega) h2
        have h4 : (256 : Nat) ^ 7 = 72057594037927936 := by decide
        omega
      have eI : ((i + 1 : Nat) : Int) - 1 = (i : Int) := by omega
      rw [eI]
      have ix := fun X => index_byR g o i 8 cap (by omega) X
      have vI : (v : Int) < 72057594037927936 := by omega
      have xI : (x : Int) < 256 := by omega
      have iI : (i : Int) < 8 := by omega
      have HST := hide hst
      have HV := hide hv
      clear hst hv hvb hx hx2 eI h8
      go_wp2
      go_roundw
      case rel =>
        refine ⟨i, v * 256 + x, by omega, int_congrP (by omega), ?_, ?_, trivial⟩
        · rw [show ((v * 256 + x : Nat) : Int) = (v : Int) * 256 + (x : Int) by omega]
        · have h9 := HST.out
          rw [show 8 - (i + 1) + 1 = 8 - i by omega, ← HV.out] at h9
          exact h9.symm
      case measure => simp [intOf]
section
variable {w : World} {b : Nat} {M : RLay} {σ : St} {mk : Nat → Int}
set_option maxRecDepth 100000 in
/-- Word, of a device that is on. -/
theorem rword_any (at_ : Nat) (h : RefL w b M (rOf σ mk)) (hok : σ.Ok) (ho : σ.off = false) (h8 : at_ % 8 = 0) (hl : at_ + 8 ≤ 64 * σ.n) : Calls Try.prog 32 #[.pointer (some ⟨b, 0, none⟩), .int .i64 (at_ : Int)] w fun e w' => e = .returned (.tuple #[.int .u64 ((leV ((σ.bytes.drop at_).take 8) : Nat) : Int), .int .i64 0]) ∧ Below w.heap.size w w' := by
  have hmx := hok.max
  have c5 : w.cell? ⟨b, 5, none⟩ = some (.bool false) := by rw [← ho]; exact h.c 5
  have hlen : ((σ.bytes.drop at_).take 8).length = 8 := by rw [List.length_take, List.length_drop, hok.len]; omega
  have hbb : ∀ x ∈ (σ.bytes.drop at_).take 8, x < 256 := fun x hx => hok.byte x (List.mem_of_mem_drop (List.mem_of_mem_take hx))
  have kn : Calls Try.prog 53 #[.pointer (some ⟨b, 0, none⟩), .int .i64 (at_ : Int), .int .i64 8] w fun e w' => e = .returned (.tuple #[.int .u64 ((leV ((σ.bytes.drop at_).take 8) : Nat) : Int), .int .i64 0]) ∧ Below w.heap.size w w' := by
    have KI := hide (rinside9 h hok.max at_ 8 hl)
    have KL := hide (rload_any at_ 8 h hok ho hl)
    generalize (σ.bytes.drop at_).take 8 = ys at *
    have HLN := hide hlen
    have HBB := hide hbb
    clear hlen hbb h hok ho
    go_enter Try.func53, Try.ntmps53
    go_wp2_with (first
      | (go_at_call 63; refine (KI.out).mono ?_; rintro e w' ⟨rfl, hw⟩; obtain rfl := hw.symm)
      | (go_at_call 30; refine (KL.out).mono ?_; rintro e W1 ⟨v, rfl, hown, hB1⟩; obtain ⟨sa, sc, rfl, hsl⟩ := own_slB hown HBB.out HLN.out; have HB1 := hide hB1; have HSL := hide hsl; clear hown hB1 hsl)
      | (go_at_call 64; obtain ⟨g, o, rfl, hg, hs⟩ : ∃ g o, sa = some ⟨g, o, none⟩ ∧ g < W1.heap.size ∧ Seg W1 g o ys := (HSL.out.resolve_left (fun h => by have := HLN.out; rw [h] at this; cases this)); refine (rnumber (len := 8) rfl HLN.out HBB.out (fun j x hx => (hs j x hx).1)).mono ?_; rintro e w' ⟨rfl, hw⟩; obtain rfl := hw.symm))
    go_ret2
    exact ⟨rfl, HB1.out⟩
  have KN := hide kn
  have htm : (at_ : Int).tmod 8 = 0 := by rw [Int.tmod_eq_emod_of_nonneg (by omega)]; omega
  generalize (σ.bytes.drop at_).take 8 = ys at *
  clear kn h hok ho hlen hbb h8
  go_enter Try.func32, Try.ntmps32
  go_wp2_with (go_at_call 53; refine (KN.out).mono ?_; rintro e W1 ⟨rfl, hB1⟩; have HB1 := hide hB1; clear hB1)
  go_ret2
  exact ⟨rfl, HB1.out⟩
end
end Go.Proofs.Ytmlhibkofalamaa
namespace Go.Proofs.Ytmlhibkofalamaa
open Go.RowKit Go.Shelf
set_option linter.unusedVariables false
attribute [local go_sem] Oper.semAt_some

/-- The lines of a range. -/
def linesOf (at_ n : Nat) : List Nat := (unitsV 64 (at_ : Int) (n : Int)).map Int.toNat
def linesDo (σ : St) (ls : List Nat) : St := ls.foldl flushDo σ
theorem linesDo_snoc (σ : St) (ls : List Nat) (i : Nat) : linesDo σ (ls ++ [i]) = flushDo (linesDo σ ls) i := by simp [linesDo]
theorem lines_like : ∀ (ls : List Nat) (σ : St), σ.Ok → σ.ops + ls.length ≤ 1400000000000 → (linesDo σ ls).Ok ∧ (linesDo σ ls).n = σ.n ∧ (linesDo σ ls).ops = σ.ops + ls.length ∧ (linesDo σ ls).arms = σ.arms ∧ (linesDo σ ls).off = σ.off ∧ (linesDo σ ls).bytes = σ.bytes ∧ (linesDo σ ls).past = σ.past ∧ (linesDo σ ls).cnt = σ.cnt
  | [], σ, hok, _ => ⟨hok, rfl, rfl, rfl, rfl, rfl, rfl, rfl⟩
  | i :: ls, σ, hok, h => by
    rw [List.length_cons] at h
    obtain ⟨h1, h2, h3, h4, h5, h6, h7, h8⟩ := lines_like ls (flushDo σ i) (flush_ok hok i (by omega)) (by show σ.ops + 1 + _ ≤ _; omega)
    exact ⟨h1, h2, h3.trans (by show σ.ops + 1 + _ = _; rw [List.length_cons]; omega), h4, h5, h6, h7, h8⟩
theorem unit_told {at_ n N : Nat} {pre : List Int} {x : Int} (hlen : at_ + n ≤ 64 * N) (hN : N ≤ 65536) (hpx : pre ++ [x] <+: unitsV 64 (at_ : Int) (n : Int)) : ∃ no : Nat, x = (no : Int) ∧ no < N ∧ pre.length < 65536 := by
  unfold unitsV at hpx
  split at hpx
  · have := hpx.length_le
    simp at this
  · rename_i hb
    obtain ⟨h1, h2⟩ := prefix_upto hpx
    exact ⟨((at_ : Int) / 64 + pre.length).toNat, by omega, by omega, by omega⟩
/-- A block of a walk's own. -/
theorem Stab.blk {β : Type} {H : TypeId → Prop} {B b : Nat} (o : Obj) (hb : b < B) : Stab H B (fun (_ : β) W => W.heap[b]? = some o) := fun s W W' hJ hs => hs.2 b _ hJ (.inl hb)
theorem blk_foot {w W : World} {b g : Nat} {L : Lay} {σ : St} {t : TypeId} {c : Array Value} {fr : Nat × Nat} (h : DevL W b L σ) (ho : Old w b L) (hb : W.heap[g]? = some (.cells c t fr)) (hg : w.heap.size ≤ g) (ht : ¬ HP t) : ¬ Foot b L σ g := fun hf => by
  rcases foot_cases h ho hf with h1 | ⟨o, h1, ⟨c', t', f', h2, h3⟩ | ⟨es, q, h2⟩⟩
  · omega
  · rw [hb] at h1
    cases h1
    cases h2
    exact ht h3
  · rw [hb] at h1
    cases h1
    cases h2
end Go.Proofs.Ytmlhibkofalamaa
namespace Go.Proofs.Ytmlhibkofalamaa
open Go.RowKit Go.Shelf
set_option linter.unusedVariables false

section
variable {w : World} {b : Nat} {L : Lay} {σ : St} {a : Option Addr} {bs : List Nat}
end
/-- Behind k words the bytes ahead of them are written. -/
theorem splice_words (l bs : List Nat) (at_ k : Nat) (hlen : at_ + bs.length ≤ l.length) (hk : at_ ≤ k) (hk2 : k < at_ + bs.length) (n : Nat) (hn : n ≤ 8) (hn2 : k + n ≤ at_ + bs.length) :
    splice (splice l at_ (bs.take (k - at_))) k ((bs.drop (k - at_)).take n) = splice l at_ (bs.take (k + n - at_)) := by
  have l1 : (bs.take (k - at_)).length = k - at_ := by rw [List.length_take]; omega
  have l2 : ((bs.drop (k - at_)).take n).length = n := by rw [List.length_take, List.length_drop]; omega
  have l3 : (bs.take (k + n - at_)).length = k + n - at_ := by rw [List.length_take]; omega
  have l4 := splice_len l (bs.take (k - at_)) at_ (by omega)
  refine List.ext_getElem? fun q => ?_
  rw [splice_get _ _ _ _ (by omega), splice_get _ _ _ _ (by omega), splice_get _ _ _ _ (by omega), l1, l2, l3]
  by_cases h0 : q < at_
  · rw [if_pos (by omega), if_pos h0, if_pos h0]
  · by_cases h1 : q < k
    · rw [if_pos h1, if_neg h0, if_pos (by omega), if_neg h0, if_pos (by omega), List.getElem?_take, List.getElem?_take, if_pos (by omega), if_pos (by omega)]
    · rw [if_neg h1]
      by_cases h2 : q < k + n
      · rw [if_pos h2, if_neg h0, if_pos (by omega), List.getElem?_take, List.getElem?_take, if_pos (by omega), if_pos (by omega), List.getElem?_drop]
        congr 1
        omega
      · rw [if_neg h2, if_neg h0, if_neg (by omega), if_neg h0, if_neg (by omega)]
end Go.Proofs.Ytmlhibkofalamaa
namespace Go.Proofs.Ytmlhibkofalamaa
open Go.RowKit Go.Shelf
set_option linter.unusedVariables false

section
variable {w : World} {b : Nat} {L : Lay} {σ : St}
end
end Go.Proofs.Ytmlhibkofalamaa
namespace Go.Proofs.Ytmlhibkofalamaa
open Go.RowKit Go.Shelf
set_option linter.unusedVariables false

section
variable {w : World} {b : Nat} {L : Lay} {σ : St}
/-- A device behind a step: what it is, where it lies. -/
def Atd (W0 : World) (b : Nat) (L : Lay) (σ : St) (W : World) (σ' : St) (m : Nat) : Prop :=
  Gr (Foot b L σ) W0 W ∧ ∃ L', DevL W b L' σ' ∧ (∀ k, Foot b L' σ' k → Foot b L σ k ∨ W0.heap.size ≤ k) ∧ L'.N ≤ L.N + m
theorem Atd.start {W0 W : World} (h : DevL W0 b L σ) (hB : Below W0.heap.size W0 W) : Atd W0 b L σ W σ 0 := ⟨Gr.of_below hB, L, h.below hB, fun k hk => .inl hk, by omega⟩
theorem Atd.go {W0 W W' : World} {L' : Lay} {σ' σ2 : St} {m m2 : Nat} (h : Gr (Foot b L σ) W0 W) (hf : ∀ k, Foot b L' σ' k → Foot b L σ k ∨ W0.heap.size ≤ k) (hN : L'.N ≤ L.N + m) {L2 : Lay} (hd : DevL W' b L2 σ2) (hf2 : ∀ k, Foot b L2 σ2 k → Foot b L' σ' k ∨ W.heap.size ≤ k) (hg : Gr (Foot b L' σ') W W') (hN2 : L2.N ≤ L'.N + m2) : Atd W0 b L σ W' σ2 (m + m2) :=
  ⟨h.trans hg hf, L2, hd, fun k hk => (hf2 k hk).elim (hf k) (fun h1 => .inr (Nat.le_trans h.size h1)), by omega⟩
theorem st4 {W : World} {g : Nat} {p v : Value} {x y : Int} {t : TypeId} (h : W.heap[g]? = some (.cells #[p, .int .i64 x, .int .i64 y, v] t (0, 0))) :
    W.cell? ⟨g, 0, none⟩ = some p ∧ W.cell? ⟨g, 1, none⟩ = some (.int .i64 x) ∧ W.cell? ⟨g, 2, none⟩ = some (.int .i64 y) ∧ W.cell? ⟨g, 3, none⟩ = some v := ⟨cell8 h 0, cell8 h 1, cell8 h 2, cell8 h 3⟩
end
end Go.Proofs.Ytmlhibkofalamaa
namespace Go.Proofs.Ytmlhibkofalamaa
open Go.RowKit Go.Shelf
set_option linter.unusedVariables false

/-- What Bytes makes of a device. -/
def bytesDo (bs : List Nat) (at_ : Nat) (σ : St) : St := fenceDo (linesDo (writeDo bs at_ σ (wordsOf at_ bs.length)) (linesOf at_ bs.length))
theorem linesOf_len {at_ n : Nat} (h : at_ + n ≤ 4194304) : (linesOf at_ n).length ≤ 65537 := by
  unfold linesOf unitsV
  rw [List.length_map]
  split
  · simp
  · rw [upto_length]
    omega
theorem Atd.base {w W0 W : World} {b : Nat} {L : Lay} {σ σ' : St} {m : Nat} (h : Atd W0 b L σ W σ' m) (hB : Below w.heap.size w W0) : Atd w b L σ W σ' m := by
  obtain ⟨hg, L', hd, hf, hN⟩ := h
  exact ⟨(Gr.of_below hB).trans hg (fun i h => .inl h), L', hd, fun k hk => (hf k hk).imp id (fun h => Nat.le_trans hB.size h), hN⟩
section
variable {w : World} {b : Nat} {L : Lay} {σ : St}
def byA (b at_ n cap : Nat) (a : Option Addr) (j : Nat) : Array Value := if j = 0 then #[.agg #[.pointer (some ⟨b, 0, none⟩), .int .i64 (at_ : Int), .int .i64 (n : Int), .slice a n cap]] else if j = 1 then #[.agg #[.pointer (some ⟨b, 0, none⟩), .int .i64 (at_ : Int), .int .i64 (n : Int)]] else #[.pointer (some ⟨b, 0, none⟩)]
def byS (bs : List Nat) (at_ : Nat) (σ : St) (j : Nat) : St := if j = 0 then σ else if j = 1 then writeDo bs at_ σ (wordsOf at_ bs.length) else if j = 2 then linesDo (writeDo bs at_ σ (wordsOf at_ bs.length)) (linesOf at_ bs.length) else bytesDo bs at_ σ
def byM (at_ n j : Nat) : Nat := if j = 0 then 0 else if j = 1 then (wordsOf at_ n).length else (wordsOf at_ n).length + (linesOf at_ n).length
theorem three {j : Nat} (h : j < 3) : j = 0 ∨ j = 1 ∨ j = 2 := by omega
end
end Go.Proofs.Ytmlhibkofalamaa
namespace Go.Proofs.Ytmlhibkofalamaa
open Go.RowKit Go.Shelf
set_option linter.unusedVariables false

/-- A pointer to what is no device, or one that is off, in every world that keeps w. -/
def BadD (w : World) (p : Value) (c : Int) : Prop := c ≠ 0 ∧ ∀ W, Below w.heap.size w W → Calls Try.prog 36 #[p] W fun e w' => e = .returned (.int .i64 c) ∧ w' = W
theorem BadD.below {w W : World} {p : Value} {c : Int} (h : BadD w p c) (hB : Below w.heap.size w W) : BadD W p c := ⟨h.1, fun W' hB' => h.2 W' (hB.trans (hB'.mono hB.size))⟩
theorem BadD.of_none {w : World} {p : Option Addr} (h : ∀ W, Below w.heap.size w W → Calls Try.prog 33 #[.pointer p] W fun e w' => e = .returned (.bool true) ∧ w' = W) : BadD w (.pointer p) 1 := ⟨by omega, fun W hB => by
  have KN := hide (h W hB)
  clear h hB
  go_enter Try.func36, Try.ntmps36
  go_wp2_with (go_at_call 33; refine (KN.out).mono ?_; rintro e w' ⟨rfl, hw⟩; obtain rfl := hw.symm)
  go_ret
  exact ⟨rfl, rfl⟩⟩
theorem BadD.nil (w : World) : BadD w (.pointer none) 1 := BadD.of_none fun W _ => by
  go_enter Try.func33, Try.ntmps33
  go_wp2
  go_ret
  exact ⟨rfl, rfl⟩
theorem neq_nilQ (a : Addr) (w : World) : (binOp .neq 26 (.pointer none) (.pointer (some a))).run Try.prog w = .ok (.bool true) w := by
  have h : ∀ d : Nat, (Op.equalIn (d + 1) 26 (.pointer none) (.pointer (some a))).run Try.prog w = .ok false w := fun d => by
    simp [Op.equalIn, run_underlying Try.underlying26]
  simp only [binOp]
  simp [Op.equal, Op.maxDepth, h 9999]
theorem BadD.zero {w : World} {b : Nat} {c1 c2 c3 c4 c5 c6 c7 : Value} (h : w.heap[b]? = some (.cells #[.pointer none, c1, c2, c3, c4, c5, c6, c7] 58 (0, 0))) : BadD w (.pointer (some ⟨b, 0, none⟩)) 1 := BadD.of_none fun W hB => by
  have c0 : W.cell? ⟨b, 0, none⟩ = some (.pointer none) := cell8 ((hB.block b (lt_of_heap h)).trans h) 0
  have hq := neq_nilQ ⟨b, 0, none⟩ W
  clear h hB
  go_enter Try.func33, Try.ntmps33
  go_wp2
  go_ret
  exact ⟨rfl, rfl⟩
theorem BadD.off {w : World} {b : Nat} {L : Lay} {σ : St} (h : DevL w b L σ) (ho : σ.off = true) : BadD w (.pointer (some ⟨b, 0, none⟩)) 5 := ⟨by omega, fun W hB => by
  have ks := pstate_any (h.below hB)
  rw [ho] at ks
  simp only [if_true] at ks
  exact ks⟩
section
variable {w : World} {p : Option Addr} {c : Int}
theorem bad_load (h : BadD w (.pointer p) c) (x y : Int) : Calls Try.prog 27 #[.pointer p, .int .i64 x, .int .i64 y] w fun e w' => e = .returned (.tuple #[.slice none 0 0, .int .i64 c]) ∧ Below w.heap.size w w' := by
  have hA : Below w.heap.size w ((w.alloc (.cells #[.pointer p] 26)).alloc (.cells #[.int .i64 x] 3)) := ((Below.refl _ w).alloc (Nat.le_refl _) _).alloc (by simp) _
  have KS := hide (h.2 _ hA)
  have HA := hide hA
  have hc : (c != 0) = true := by simpa using h.1
  clear h hA
  refine (callsIn_wide (n := 3)).1 ?_
  refine callsIn_of_wp_marks Try.func27 rfl trivial ?_ rfl
  simp only [Try.ntmps27, List.size_toArray, List.length_cons, List.length_nil, Nat.reduceAdd, Nat.reduceSub, Array.replicate_succ, Array.replicate_zero, List.push_toArray, List.append_toArray, List.nil_append, List.cons_append]
  gi_wp2_with (refine ⟨trivial, ?_⟩; gi_at_call 36; refine (inW KS.out).mono ?_; rintro e w' ⟨rfl, hw⟩; obtain rfl := hw)
  exact ⟨_, results_tmp2 rfl _ _ _, rfl, HA.out⟩
end

section
variable {w : World} {b : Nat} {L : Lay} {σ : St}
end
end Go.Proofs.Ytmlhibkofalamaa
namespace Go.Proofs.Ytmlhibkofalamaa
open Go.RowKit
set_option linter.unusedVariables false

end Go.Proofs.Ytmlhibkofalamaa
namespace Go.Proofs.Ytmlhibkofalamaa
open Go.RowKit Go.Shelf
set_option linter.unusedVariables false

theorem qfbytes64 (x : Int) (v : Nat) (w : World) (hv : v < 18446744073709551616) : Calls Try.prog 61 #[.agg #[.int .i64 x], .int .u64 (v : Int)] w fun e w' => ∃ g, e = .returned (.slice (some ⟨g, 0, none⟩) 8 8) ∧ w.heap.size ≤ g ∧ OwnB w' g (leB 8 v) ∧ Below w.heap.size w w' := by
  have kp : ∀ W, Calls Try.prog 49 #[.slice none 0 0, .int .u64 (v : Int)] W fun e w' => e = .returned (.slice (some ⟨W.heap.size, 0, none⟩) 8 8) ∧ Below W.heap.size W w' ∧ OwnB w' W.heap.size (leB 8 v) := fun W => put64 none 0 v [] W (.inl rfl) (by simp) hv
  have KP := hide kp
  have hA : Below w.heap.size w (w.alloc (.cells #[.int .i64 x] 98)) := (Below.refl _ w).alloc (Nat.le_refl _) _
  have HA := hide hA
  clear kp hA
  go_enter Try.func61, Try.ntmps61
  go_wp2_with (go_at_call 49; refine (KP.out _).mono ?_; rintro e W1 ⟨rfl, hb1, ho1⟩; have HB1 := hide hb1; have HO1 := hide ho1; clear hb1 ho1)
  go_ret
  exact ⟨w.heap.size + 1, rfl, by omega, (by have h := HO1.out; rwa [World.size_alloc] at h), HA.out.trans (HB1.out.mono HA.out.size)⟩
set_option maxHeartbeats 400000 in
theorem qbfload64 {w : World} {p : Option Addr} {c : Int} (h : BadD w (.pointer p) c) (x : Int) : Calls Try.prog 52 #[.agg #[.int .i64 x], .pointer p] w fun e w' => e = .returned (.tuple #[.int .u64 0, .int .i64 c]) ∧ Below w.heap.size w w' := by
  have hA : Below w.heap.size w (w.alloc (.cells #[.int .i64 x] 98)) := (Below.refl _ w).alloc (Nat.le_refl _) _
  have mk : ∀ X, Below (w.alloc (.cells #[.int .i64 x] 98)).heap.size (w.alloc (.cells #[.int .i64 x] 98)) X → Below (w.alloc (.cells #[.int .i64 x] 98)).heap.size (w.alloc (.cells #[.int .i64 x] 98)) X ∧ X.cell? ⟨w.heap.size, 0, none⟩ = some (.int .i64 x) := fun X hX => ⟨hX, cell8 ((hX.block _ (by simp)).trans (heap_alloc_new w _)) 0⟩
  have HA := hide hA
  have MK := hide mk
  clear hA mk
  have HBAD := hide h
  have hc : (c != 0) = true := by simpa using h.1
  clear h
  go_enter Try.func52, Try.ntmps52
  go_wp2_with (fail)
  refine wp_region_held_drew (S := fun X => Below (w.alloc (.cells #[.int .i64 x] 98)).heap.size (w.alloc (.cells #[.int .i64 x] 98)) X ∧ X.cell? ⟨w.heap.size, 0, none⟩ = some (.int .i64 x)) (by kernel_rfl) (MK.out _ (Below.refl _ _).drew) (fun hS => ?_)
  refine wpAnyH_take (i := 0) (v := (.pointer p)) rfl (by kernel_rfl) (by kernel_rfl) (by kernel_rfl) (fun _ _ _ h => h) (Or.inl ⟨by kernel_rfl, fun w' hw => by (go_simp)⟩) hS ?_
  refine wpAnyH_take (i := 1) (v := (.pointer (some ⟨w.heap.size, 0, none⟩))) rfl (by kernel_rfl) (by kernel_rfl) (by kernel_rfl) (fun _ _ _ h => h) (Or.inl ⟨by kernel_rfl, fun w' hw => by (go_simp)⟩) hS ?_
  refine wpAnyH_take (i := 2) (v := (.int .i64 x)) rfl (by kernel_rfl) (by kernel_rfl) (by kernel_rfl) (fun _ _ _ h => h) (Or.inl ⟨by kernel_rfl, fun w' hw => by (obtain ⟨_, z0⟩ := hw; go_simp)⟩) hS ?_
  refine wpAnyH_take (i := 3) (v := (.agg #[.int .i64 x])) rfl (by kernel_rfl) (by kernel_rfl) (by kernel_rfl) (fun _ _ _ h => h) (Or.inl ⟨by kernel_rfl, fun w' hw => by (obtain ⟨_, z0⟩ := hw; go_simp)⟩) hS ?_
  refine wpAnyH_ready (rs := [4]) (by kernel_rfl) (by simp) ?_
  refine AllReadyH.cons rfl (fun K hK => ?_) AllReadyH.nil
  rw [if_pos (by kernel_rfl)]
  go_simp
  go_wp2_with (go_at_call 61; refine (qfbytes64 x 0 _ (by omega)).mono ?_; rintro e W3 ⟨g, rfl, _, _, hb3⟩)
  have hw3 := bseq (Below.refl _ (w.alloc (.cells #[.int .i64 x] 98))).drew hb3
  refine hK.out _ _ (MK.out _ hw3) (fun hS2 => ?_)
  clear hK K hb3
  refine wpAnyH_take (i := 5) (v := (.int .i64 8)) rfl (by kernel_rfl) (by kernel_rfl) (by kernel_rfl) (fun _ _ _ h => h) (Or.inl ⟨by kernel_rfl, fun w' hw => by (go_simp)⟩) hS2 ?_
  refine wpAnyH_ready (rs := [6]) (by kernel_rfl) (by simp) ?_
  refine AllReadyH.cons rfl (fun K hK => ?_) AllReadyH.nil
  rw [if_pos (by kernel_rfl)]
  go_simp
  go_wp2_with (go_at_call 27; refine (bad_load (HBAD.out.below (HA.out.trans (hw3.mono HA.out.size))) x 8).mono ?_; rintro e W4 ⟨rfl, hb4⟩)
  have hw4 := bseq hw3 hb4
  refine hK.out _ _ (MK.out _ hw4) (fun hS3 => ?_)
  clear hK K hb4
  refine wpAnyH_take (i := 7) (v := (.tuple #[(.slice none 0 0), .int .i64 c])) rfl (by kernel_rfl) (by kernel_rfl) (by kernel_rfl) (fun _ _ _ h => h) (Or.inl ⟨by kernel_rfl, fun w' hw => by (go_simp)⟩) hS3 ?_
  refine wpAnyH_take (i := 8) (v := (.slice none 0 0)) rfl (by kernel_rfl) (by kernel_rfl) (by kernel_rfl) (fun _ _ _ h => h) (Or.inl ⟨by kernel_rfl, fun w' hw => by (go_simp)⟩) hS3 ?_
  refine wpAnyH_take (i := 9) (v := (.int .i64 c)) rfl (by kernel_rfl) (by kernel_rfl) (by kernel_rfl) (fun _ _ _ h => h) (Or.inl ⟨by kernel_rfl, fun w' hw => by (go_simp)⟩) hS3 ?_
  refine wpAnyH_take (i := 10) (v := (.slice none 0 0)) rfl (by kernel_rfl) (by kernel_rfl) (by kernel_rfl) (fun _ _ _ h => h) (Or.inl ⟨by kernel_rfl, fun w' hw => by (go_simp)⟩) hS3 ?_
  refine wpAnyH_take (i := 11) (v := (.int .i64 c)) rfl (by kernel_rfl) (by kernel_rfl) (by kernel_rfl) (fun _ _ _ h => h) (Or.inl ⟨by kernel_rfl, fun w' hw => by (go_simp)⟩) hS3 ?_
  refine wpAnyH_done (by kernel_rfl) ?_ _
  simp only [Act.put, List.getElem_toArray, List.getElem_cons_zero, List.getElem_cons_succ, List.setIfInBounds_toArray, List.set_cons_zero, List.set_cons_succ]
  have HW4 := hide (HA.out.trans (hw4.mono HA.out.size))
  clear hw3 hw4 hS hS2 hS3
  go_wp2_with (fail)
  go_ret2
  exact ⟨rfl, HW4.out⟩
set_option maxHeartbeats 400000 in
theorem qfload64 {w : World} {p : Option Addr} (x : Int) (bs : List Nat) (hl : bs.length = 8) (hbs : ∀ y ∈ bs, y < 256) (kl : ∀ W, Below w.heap.size w W → Calls Try.prog 27 #[.pointer p, .int .i64 x, .int .i64 8] W fun e w' => ∃ R, e = .returned (.tuple #[.slice (some ⟨R, 0, none⟩) 8 8, .int .i64 0]) ∧ OwnB w' R bs ∧ Below W.heap.size W w') : Calls Try.prog 52 #[.agg #[.int .i64 x], .pointer p] w fun e w' => e = .returned (.tuple #[.int .u64 (leV bs : Nat), .int .i64 0]) ∧ Below w.heap.size w w' := by
  have hA : Below w.heap.size w (w.alloc (.cells #[.int .i64 x] 98)) := (Below.refl _ w).alloc (Nat.le_refl _) _
  have mk : ∀ X, Below (w.alloc (.cells #[.int .i64 x] 98)).heap.size (w.alloc (.cells #[.int .i64 x] 98)) X → Below (w.alloc (.cells #[.int .i64 x] 98)).heap.size (w.alloc (.cells #[.int .i64 x] 98)) X ∧ X.cell? ⟨w.heap.size, 0, none⟩ = some (.int .i64 x) := fun X hX => ⟨hX, cell8 ((hX.block _ (by simp)).trans (heap_alloc_new w _)) 0⟩
  have HA := hide hA
  have MK := hide mk
  clear hA mk
  have KL := hide kl
  have HLN := hide hl
  have HBS := hide hbs
  clear kl hl hbs
  go_enter Try.func52, Try.ntmps52
  go_wp2_with (fail)
  refine wp_region_held_drew (S := fun X => Below (w.alloc (.cells #[.int .i64 x] 98)).heap.size (w.alloc (.cells #[.int .i64 x] 98)) X ∧ X.cell? ⟨w.heap.size, 0, none⟩ = some (.int .i64 x)) (by kernel_rfl) (MK.out _ (Below.refl _ _).drew) (fun hS => ?_)
  refine wpAnyH_take (i := 0) (v := (.pointer p)) rfl (by kernel_rfl) (by kernel_rfl) (by kernel_rfl) (fun _ _ _ h => h) (Or.inl ⟨by kernel_rfl, fun w' hw => by (go_simp)⟩) hS ?_
  refine wpAnyH_take (i := 1) (v := (.pointer (some ⟨w.heap.size, 0, none⟩))) rfl (by kernel_rfl) (by kernel_rfl) (by kernel_rfl) (fun _ _ _ h => h) (Or.inl ⟨by kernel_rfl, fun w' hw => by (go_simp)⟩) hS ?_
  refine wpAnyH_take (i := 2) (v := (.int .i64 x)) rfl (by kernel_rfl) (by kernel_rfl) (by kernel_rfl) (fun _ _ _ h => h) (Or.inl ⟨by kernel_rfl, fun w' hw => by (obtain ⟨_, z0⟩ := hw; go_simp)⟩) hS ?_
  refine wpAnyH_take (i := 3) (v := (.agg #[.int .i64 x])) rfl (by kernel_rfl) (by kernel_rfl) (by kernel_rfl) (fun _ _ _ h => h) (Or.inl ⟨by kernel_rfl, fun w' hw => by (obtain ⟨_, z0⟩ := hw; go_simp)⟩) hS ?_
  refine wpAnyH_ready (rs := [4]) (by kernel_rfl) (by simp) ?_
  refine AllReadyH.cons rfl (fun K hK => ?_) AllReadyH.nil
  rw [if_pos (by kernel_rfl)]
  go_simp
  go_wp2_with (go_at_call 61; refine (qfbytes64 x 0 _ (by omega)).mono ?_; rintro e W3 ⟨g, rfl, _, _, hb3⟩)
  have hw3 := bseq (Below.refl _ (w.alloc (.cells #[.int .i64 x] 98))).drew hb3
  refine hK.out _ _ (MK.out _ hw3) (fun hS2 => ?_)
  clear hK K hb3
  refine wpAnyH_take (i := 5) (v := (.int .i64 8)) rfl (by kernel_rfl) (by kernel_rfl) (by kernel_rfl) (fun _ _ _ h => h) (Or.inl ⟨by kernel_rfl, fun w' hw => by (go_simp)⟩) hS2 ?_
  refine wpAnyH_ready (rs := [6]) (by kernel_rfl) (by simp) ?_
  refine AllReadyH.cons rfl (fun K hK => ?_) AllReadyH.nil
  rw [if_pos (by kernel_rfl)]
  go_simp
  go_wp2_with (go_at_call 27; refine (KL.out W3 (HA.out.trans (hw3.mono HA.out.size))).mono ?_; rintro e W4 ⟨R, rfl, hR, hb4⟩)
  have hw4 := bseq hw3 hb4
  refine hK.out _ _ (MK.out _ hw4) (fun hS3 => ?_)
  clear hK K hb4
  refine wpAnyH_take (i := 7) (v := (.tuple #[(.slice (some ⟨R, 0, none⟩) 8 8), .int .i64 0])) rfl (by kernel_rfl) (by kernel_rfl) (by kernel_rfl) (fun _ _ _ h => h) (Or.inl ⟨by kernel_rfl, fun w' hw => by (go_simp)⟩) hS3 ?_
  refine wpAnyH_take (i := 8) (v := (.slice (some ⟨R, 0, none⟩) 8 8)) rfl (by kernel_rfl) (by kernel_rfl) (by kernel_rfl) (fun _ _ _ h => h) (Or.inl ⟨by kernel_rfl, fun w' hw => by (go_simp)⟩) hS3 ?_
  refine wpAnyH_take (i := 9) (v := (.int .i64 0)) rfl (by kernel_rfl) (by kernel_rfl) (by kernel_rfl) (fun _ _ _ h => h) (Or.inl ⟨by kernel_rfl, fun w' hw => by (go_simp)⟩) hS3 ?_
  refine wpAnyH_take (i := 10) (v := (.slice (some ⟨R, 0, none⟩) 8 8)) rfl (by kernel_rfl) (by kernel_rfl) (by kernel_rfl) (fun _ _ _ h => h) (Or.inl ⟨by kernel_rfl, fun w' hw => by (go_simp)⟩) hS3 ?_
  refine wpAnyH_take (i := 11) (v := (.int .i64 0)) rfl (by kernel_rfl) (by kernel_rfl) (by kernel_rfl) (fun _ _ _ h => h) (Or.inl ⟨by kernel_rfl, fun w' hw => by (go_simp)⟩) hS3 ?_
  refine wpAnyH_done (by kernel_rfl) ?_ _
  simp only [Act.put, List.getElem_toArray, List.getElem_cons_zero, List.getElem_cons_succ, List.setIfInBounds_toArray, List.set_cons_zero, List.set_cons_succ]
  have HW4 := hide (HA.out.trans (hw4.mono HA.out.size))
  clear hw3 hw4 hS hS2 hS3
  have kt := take64_good (some ⟨R, 0, none⟩) 8 0 bs W4 (hR.sl HBS.out) (by rw [HLN.out]; unfold maxLen; omega) (by rw [HLN.out]; omega)
  rw [HLN.out, List.drop_zero, List.take_of_length_le (by rw [HLN.out]; omega)] at kt
  have KT := hide kt
  clear kt hR
  go_wp2_with (go_at_call 62; refine (KT.out).mono ?_; rintro e w1 ⟨rfl, hw⟩; obtain rfl := hw.symm)
  go_ret2
  exact ⟨rfl, HW4.out⟩
end Go.Proofs.Ytmlhibkofalamaa
namespace Go.Proofs.Ytmlhibkofalamaa
open Go.RowKit Go.Shelf
set_option linter.unusedVariables false

section
variable {w : World} {b : Nat} {L : Lay} {σ : St}
def wbA (b at_ v : Nat) (j : Nat) : Array Value := if j = 0 then #[.agg #[.pointer (some ⟨b, 0, none⟩), .int .i64 (at_ : Int), .int .i64 8, .int .u64 (v : Int)]] else if j = 1 then #[.agg #[.pointer (some ⟨b, 0, none⟩), .int .i64 (at_ : Int), .int .i64 8]] else #[.pointer (some ⟨b, 0, none⟩)]
def wbS (v at_ : Nat) (σ : St) (j : Nat) : St := if j = 0 then σ else if j = 1 then writeDo (leB 8 v) at_ σ (wordsOf at_ 8) else if j = 2 then linesDo (writeDo (leB 8 v) at_ σ (wordsOf at_ 8)) (linesOf at_ 8) else bytesDo (leB 8 v) at_ σ
def wbM (at_ n j : Nat) : Nat := if j = 0 then 0 else if j = 1 then (wordsOf at_ n).length else (wordsOf at_ n).length + (linesOf at_ n).length
end
end Go.Proofs.Ytmlhibkofalamaa
