/- Package pmem: Store. -/
import Derived.Test.YtgfgihpkbbjkfaaPFrm
namespace Go.Proofs.Ytgfgihpkbbjkfaa
open Go.RowKit Go.Shelf
set_option linter.unusedVariables false

section
variable {w : World} {b : Nat} {L : Lay} {σ : St} {a : Option Addr} {bs : List Nat}
theorem psto_any (at_ cap : Nat) (h : DevL w b L σ) (hok : σ.Ok) (ho : σ.off = false) (hN : L.N ≤ σ.ops) (harm : σ.arms = []) (hops : σ.ops + 600000 ≤ 1400000000000) (hsl : Sl w a bs) (hcap : bs.length ≤ cap) (hlen : at_ + bs.length ≤ 64 * σ.n) (haf : ∀ ad, a = some ad → ad.block < w.heap.size ∧ ¬ Foot b L σ ad.block) :
    Calls Try.prog 20 #[.pointer (some ⟨b, 0, none⟩), .int .i64 (at_ : Int), .slice a bs.length cap] w fun e w' => e = .returned (.int .i64 0) ∧ ∃ L', DevL w' b L' (writeDo bs at_ σ (wordsOf at_ bs.length)) ∧ (∀ k, Foot b L' (writeDo bs at_ σ (wordsOf at_ bs.length)) k → Foot b L σ k ∨ w.heap.size ≤ k) ∧ Gr (Foot b L σ) w w' ∧ L'.N ≤ L.N + (wordsOf at_ bs.length).length ∧ SameL L L' := by
  have hmx := hok.max
  have ks := pstate_any h
  rw [ho] at ks
  simp only [Bool.false_eq_true, if_false] at ks
  have kh := pholds_any h hok.max (at_ : Int) (bs.length : Int) (by omega) (by omega)
  have hb : hasB σ (at_ : Int) (bs.length : Int) = true := by unfold hasB; simp; omega
  rw [hb] at kh
  have kw := callsIn_wide.1 (pwrite_in (cap := cap) h hok hN harm hsl hcap hlen hops haf)
  have KS := hide ks
  have KH := hide kh
  have KW := hide kw
  clear h hok ks kh kw hb harm hN ho hsl hlen haf
  generalize bs.length = n at *
  go_enter Try.func20, Try.ntmps20
  go_wp2_with (first | (go_at_call 37; refine (KS.out).mono ?_; rintro e w' ⟨rfl, hw⟩; obtain rfl := hw.symm) | (go_at_call 45; refine (KH.out).mono ?_; rintro e w' ⟨rfl, hw⟩; obtain rfl := hw.symm) | (go_at_call 46; refine (KW.out).mono ?_; rintro e w' ⟨rfl, hw⟩; have HW := hide hw; clear hw))
  go_ret
  exact ⟨rfl, HW.out⟩
theorem psto_out (x : Int) (n cap : Nat) (h : DevL w b L σ) (hok : σ.Ok) (ho : σ.off = false) (hx : -9223372036854775808 ≤ x) (hx' : x ≤ 9223372036854775807) (hb : hasB σ x (n : Int) = false) :
    Calls Try.prog 20 #[.pointer (some ⟨b, 0, none⟩), .int .i64 x, .slice a n cap] w fun e w' => e = .returned (.int .i64 6) ∧ w' = w := by
  have ks := pstate_any h
  rw [ho] at ks
  simp only [Bool.false_eq_true, if_false] at ks
  have kh := pholds_any h hok.max x (n : Int) hx hx'
  rw [hb] at kh
  have KS := hide ks
  have KH := hide kh
  clear h hok ks kh
  go_enter Try.func20, Try.ntmps20
  go_wp2_with (first | (go_at_call 37; refine (KS.out).mono ?_; rintro e w' ⟨rfl, hw⟩; obtain rfl := hw.symm) | (go_at_call 45; refine (KH.out).mono ?_; rintro e w' ⟨rfl, hw⟩; obtain rfl := hw.symm))
  go_ret
  exact ⟨rfl, rfl⟩
end
/-- Behind k words the bytes ahead of them are written. -/
theorem splice_words (l bs : List Nat) (at_ k : Nat) (hlen : at_ + bs.length ≤ l.length) (hk : at_ ≤ k) (hk2 : k < at_ + bs.length) (n : Nat) (hn : n ≤ 8) (hn2 : k + n ≤ at_ + bs.length) :
    splice (splice l at_ (bs.take (k - at_))) k ((bs.drop (k - at_)).take n) = splice l at_ (bs.take (k + n - at_)) := by
  have l1 : (bs.take (k - at_)).length = k - at_ := by rw [List.length_take]; omega
  have l2 : ((bs.drop (k - at_)).take n).length = n := by rw [List.length_take, List.length_drop]; omega
  have l3 : (bs.take (k + n - at_)).length = k + n - at_ := by rw [List.length_take]; omega
  have l4 := splice_len l (bs.take (k - at_)) at_ (by omega)
  refine List.ext_getElem? fun q => ?_
  rw [splice_get _ _ _ _ (by omega), splice_get _ _ _ _ (by omega), splice_get _ _ _ _ (by omega), l1, l2, l3]
  by_cases h0 : q < at_
  · rw [if_pos (by omega), if_pos h0, if_pos h0]
  · by_cases h1 : q < k
    · rw [if_pos h1, if_neg h0, if_pos (by omega), if_neg h0, if_pos (by omega), List.getElem?_take, List.getElem?_take, if_pos (by omega), if_pos (by omega)]
    · rw [if_neg h1]
      by_cases h2 : q < k + n
      · rw [if_pos h2, if_neg h0, if_pos (by omega), List.getElem?_take, List.getElem?_take, if_pos (by omega), if_pos (by omega), List.getElem?_drop]
        congr 1
        omega
      · rw [if_neg h2, if_neg h0, if_neg (by omega), if_neg h0, if_neg (by omega)]
end Go.Proofs.Ytgfgihpkbbjkfaa
