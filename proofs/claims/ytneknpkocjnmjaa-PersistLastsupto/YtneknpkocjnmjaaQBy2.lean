/- Package persist: Bytes, whole. -/
import Derived.Test.YtneknpkocjnmjaaQByt
namespace Go.Proofs.Ytneknpkocjnmjaa
open Go.RowKit Go.Shelf
set_option linter.unusedVariables false

/-- What Bytes makes of a device. -/
def bytesDo (bs : List Nat) (at_ : Nat) (σ : St) : St := fenceDo (linesDo (writeDo bs at_ σ (wordsOf at_ bs.length)) (linesOf at_ bs.length))
theorem linesOf_len {at_ n : Nat} (h : at_ + n ≤ 4194304) : (linesOf at_ n).length ≤ 65537 := by
  unfold linesOf unitsV
  rw [List.length_map]
  split
  · simp
  · rw [upto_length]
    omega
theorem Atd.base {w W0 W : World} {b : Nat} {L : Lay} {σ σ' : St} {m : Nat} (h : Atd W0 b L σ W σ' m) (hB : Below w.heap.size w W0) : Atd w b L σ W σ' m := by
  obtain ⟨hg, L', hd, hf, hN⟩ := h
  exact ⟨(Gr.of_below hB).trans hg (fun i h => .inl h), L', hd, fun k hk => (hf k hk).imp id (fun h => Nat.le_trans hB.size h), hN⟩
section
variable {w : World} {b : Nat} {L : Lay} {σ : St}
/-- The three steps of Bytes. -/
def byF (j : Nat) : Nat := if j = 0 then 23 else if j = 1 then 24 else 21
def byA (b at_ n cap : Nat) (a : Option Addr) (j : Nat) : Array Value := if j = 0 then #[.agg #[.pointer (some ⟨b, 0, none⟩), .int .i64 (at_ : Int), .int .i64 (n : Int), .slice a n cap]] else if j = 1 then #[.agg #[.pointer (some ⟨b, 0, none⟩), .int .i64 (at_ : Int), .int .i64 (n : Int)]] else #[.pointer (some ⟨b, 0, none⟩)]
def byS (bs : List Nat) (at_ : Nat) (σ : St) (j : Nat) : St := if j = 0 then σ else if j = 1 then writeDo bs at_ σ (wordsOf at_ bs.length) else if j = 2 then linesDo (writeDo bs at_ σ (wordsOf at_ bs.length)) (linesOf at_ bs.length) else bytesDo bs at_ σ
def byM (at_ n j : Nat) : Nat := if j = 0 then 0 else if j = 1 then (wordsOf at_ n).length else (wordsOf at_ n).length + (linesOf at_ n).length
theorem three {j : Nat} (h : j < 3) : j = 0 ∨ j = 1 ∨ j = 2 := by omega
set_option maxRecDepth 100000 in
set_option maxHeartbeats 400000 in
theorem qbytes_turn {a : Option Addr} {bs : List Nat} (at_ cap rb : Nat) (W0 : World) (hB0 : Below w.heap.size w W0) (h : DevL w b L σ) (hok : σ.Ok) (ho : σ.off = false) (hN : L.N ≤ σ.ops) (harm : σ.arms = []) (hops : σ.ops + 2000000 ≤ 274877906944) (hsl : Sl w a bs) (hcap : bs.length ≤ cap) (hn : 1 ≤ bs.length) (hlen : at_ + bs.length ≤ 64 * σ.n) (haf : ∀ ad, a = some ad → ad.block < w.heap.size ∧ ¬ Foot b L σ ad.block)
    (hrb : w.heap.size ≤ rb) (hrow : W0.heap[rb]? = some (.cells #[.func (.func (byF 0)) (byA b at_ bs.length cap a 0) #[], .func (.func (byF 1)) (byA b at_ bs.length cap a 1) #[], .func (.func (byF 2)) (byA b at_ bs.length cap a 2) #[]] 92 (0, 0))) :
    Calls Try.prog 22 #[.agg #[.pointer (some ⟨b, 0, none⟩), .int .i64 (at_ : Int), .int .i64 (bs.length : Int)], .slice (some ⟨rb, 0, none⟩) 3 3] W0 fun e w' => e = .returned (.int .i64 0) ∧ Atd W0 b L σ w' (bytesDo bs at_ σ) ((wordsOf at_ bs.length).length + (linesOf at_ bs.length).length) := by
  have hm := hok.max
  have hlen2 : at_ + bs.length ≤ 4194304 := by omega
  have hwl := wordsOf_len hlen2
  have hll := linesOf_len hlen2
  have hlk := write_like (at_ := at_) hsl.lt (wordsOf at_ bs.length) σ hok (wordsOf_lt hlen hm) (by omega)
  obtain ⟨j1, j2, j3, j4, j5, _⟩ := lines_like (linesOf at_ bs.length) (writeDo bs at_ σ (wordsOf at_ bs.length)) hlk.ok (by rw [hlk.ops]; omega)
  rw [hlk.ops] at j3
  have hd0 := h.below hB0
  have hnf : ¬ Foot b L σ rb := fun hf => by have := h.foot_is hf; omega
  have hrl := lt_of_heap hrow
  refine (qturn_gen hd0 hok ho at_ bs.length hn hlen rb 3 byF (byA b at_ bs.length cap a) (fun j W => Atd W0 b L σ W (byS bs at_ σ j) (byM at_ bs.length j)) (fun c W => c = 0 ∧ Atd W0 b L σ W (bytesDo bs at_ σ) ((wordsOf at_ bs.length).length + (linesOf at_ bs.length).length)) (fun j hj => ?_) (by omega) (fun j W hP i hi => ?_) (fun j hj W hP => ?_) (fun W hB => Atd.start hd0 hB) (fun W hP => ⟨rfl, hP⟩)).mono ?_
  · obtain rfl | rfl | rfl := three hj
    · exact enters_of Try.func23 (by kernel_rfl) rfl
    · exact enters_of Try.func24 (by kernel_rfl) rfl
    · exact enters_of Try.func21 (by kernel_rfl) rfl
  · have hr := (hP.1.block hrl hnf).trans hrow
    obtain rfl | rfl | rfl := three hi
    · exact cell8 hr 0
    · exact cell8 hr 1
    · exact cell8 hr 2
  · obtain ⟨hg, L', hd, hf, hN'⟩ := hP
    obtain rfl | rfl | rfl := three hj
    · refine (qtstore_any at_ cap hd hok ho (show L'.N ≤ σ.ops by have : L'.N ≤ L.N + 0 := hN'; omega) harm (by show σ.ops + _ ≤ _; omega) (hg.sl (hsl.below hB0) (fun ad he => (haf ad he).2)) hcap hlen (fun ad he => ?_)).mono ?_
      · obtain ⟨h1, h2⟩ := haf ad he
        refine ⟨Nat.lt_of_lt_of_le h1 (Nat.le_trans hB0.size hg.size), fun hF => ?_⟩
        rcases hf _ hF with h3 | h3
        · exact h2 h3
        · have := hB0.size; omega
      · rintro e W' ⟨rfl, L2, h1, h2, h3, h4⟩
        exact ⟨0, rfl, fun _ => by have h5 := Atd.go hg hf hN' h1 h2 h3 h4; exact ⟨h5.1, by obtain ⟨L5, q1, q2, q3⟩ := h5.2; exact ⟨L5, q1, q2, by show L5.N ≤ L.N + (wordsOf at_ bs.length).length; have : L5.N ≤ L.N + (0 + (wordsOf at_ bs.length).length) := q3; omega⟩⟩, fun h => absurd rfl h⟩
    · have hN2 : L'.N ≤ L.N + (wordsOf at_ bs.length).length := hN'
      have hd2 : DevL W b L' (writeDo bs at_ σ (wordsOf at_ bs.length)) := hd
      refine (callsIn_wide.1 (qflush_in (at_ := at_) (n := bs.length) hd2 hlk.ok (hlk.off.trans ho) (by rw [hlk.ops]; omega) (hlk.arms.trans harm) (by rw [hlk.n]; exact hlen) (by rw [hlk.ops]; omega))).mono ?_
      rintro e W' ⟨rfl, L2, h1, h2, h3, h4, _⟩
      exact ⟨0, rfl, fun _ => Atd.go hg hf hN' h1 (fun k hk => .inl (h2 k hk)) h3 h4, fun h => absurd rfl h⟩
    · have hd2 : DevL W b L' (linesDo (writeDo bs at_ σ (wordsOf at_ bs.length)) (linesOf at_ bs.length)) := hd
      refine (pfence_any hd2 j1 (j5.trans (hlk.off.trans ho)) (j4.trans (hlk.arms.trans harm)) (by rw [j3]; omega)).mono ?_
      rintro e W' ⟨rfl, L2, h1, h2, h3, h4⟩
      exact ⟨0, rfl, fun _ => Atd.go (m2 := 0) hg hf hN' h1 h2 h3 (by omega), fun h => absurd rfl h⟩
  · rintro e w' ⟨c, rfl, rfl, hA⟩
    exact ⟨rfl, hA⟩
set_option maxRecDepth 100000 in
set_option maxHeartbeats 400000 in
theorem qbytes_any {a : Option Addr} {bs : List Nat} (at_ cap : Nat) (h : DevL w b L σ) (hok : σ.Ok) (ho : σ.off = false) (hN : L.N ≤ σ.ops) (harm : σ.arms = []) (hops : σ.ops + 2000000 ≤ 274877906944) (hsl : Sl w a bs) (hcap : bs.length ≤ cap) (hn : 1 ≤ bs.length) (hlen : at_ + bs.length ≤ 64 * σ.n) (haf : ∀ ad, a = some ad → ad.block < w.heap.size ∧ ¬ Foot b L σ ad.block) :
    Calls Try.prog 8 #[.pointer (some ⟨b, 0, none⟩), .int .i64 (at_ : Int), .slice a bs.length cap] w fun e w' => e = .returned (.int .i64 0) ∧ Atd w b L σ w' (bytesDo bs at_ σ) ((wordsOf at_ bs.length).length + (linesOf at_ bs.length).length) := by
  obtain ⟨W0, hW0⟩ : ∃ W0, (w.alloc (.cells #[.pointer (some ⟨b, 0, none⟩), .int .i64 (at_ : Int), .int .i64 (bs.length : Int)] 63)).alloc (.cells #[.func (.func 23) #[.agg #[.pointer (some ⟨b, 0, none⟩), .int .i64 (at_ : Int), .int .i64 (bs.length : Int), .slice a bs.length cap]] #[], .func (.func 24) #[.agg #[.pointer (some ⟨b, 0, none⟩), .int .i64 (at_ : Int), .int .i64 (bs.length : Int)]] #[], .func (.func 21) #[.pointer (some ⟨b, 0, none⟩)] #[]] 92) = W0 := ⟨_, rfl⟩
  have hB0 : Below w.heap.size w W0 := by rw [← hW0]; exact ((Below.refl _ w).alloc (Nat.le_refl _) _).alloc (by simp) _
  have hrow : W0.heap[w.heap.size + 1]? = some (.cells #[.func (.func (byF 0)) (byA b at_ bs.length cap a 0) #[], .func (.func (byF 1)) (byA b at_ bs.length cap a 1) #[], .func (.func (byF 2)) (byA b at_ bs.length cap a 2) #[]] 92 (0, 0)) := by
    rw [← hW0]
    have := heap_alloc_new (w.alloc (.cells #[.pointer (some ⟨b, 0, none⟩), .int .i64 (at_ : Int), .int .i64 (bs.length : Int)] 63)) (.cells #[.func (.func 23) #[.agg #[.pointer (some ⟨b, 0, none⟩), .int .i64 (at_ : Int), .int .i64 (bs.length : Int), .slice a bs.length cap]] #[], .func (.func 24) #[.agg #[.pointer (some ⟨b, 0, none⟩), .int .i64 (at_ : Int), .int .i64 (bs.length : Int)]] #[], .func (.func 21) #[.pointer (some ⟨b, 0, none⟩)] #[]] 92)
    rw [World.size_alloc] at this
    exact this
  have kt := qbytes_turn at_ cap (w.heap.size + 1) W0 hB0 h hok ho hN harm hops hsl hcap hn hlen haf (by omega) hrow
  rw [← hW0] at kt
  have KT := hide kt
  have HB0 := hide hB0
  have HW0 := hide hW0
  clear h hok ho hN harm hops hsl hn hlen haf kt hB0 hrow hcap hW0
  generalize bs.length = n at *
  go_enter Try.func8, Try.ntmps8
  go_wp2_with (go_at_call 22; refine (KT.out).mono ?_; rintro e W1 ⟨rfl, hA⟩; have HAT := hide hA; clear hA)
  go_ret
  refine ⟨rfl, ?_⟩
  have h5 := HAT.out
  rw [HW0.out] at h5
  exact h5.base HB0.out
end
end Go.Proofs.Ytneknpkocjnmjaa
