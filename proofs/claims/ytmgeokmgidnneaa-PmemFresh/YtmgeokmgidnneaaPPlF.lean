/- The statements' play of layer 8: a step that flushes, one that does nothing. -/
import Derived.Test.YtmgeokmgidnneaaPPlL
import Derived.Deep.Cut
namespace Go.Proofs.Ytmgeokmgidnneaa
open Go.RowKit Go.Shelf
set_option linter.unusedVariables false

theorem tdiv8 (w : Nat) : (w : Int).tdiv 8 = ((w / 8 : Nat) : Int) := by rw [Int.tdiv_eq_ediv_of_nonneg (by omega)]; omega
set_option maxRecDepth 100000 in
set_option maxHeartbeats 1000000 in
theorem play_flush (p b N sg sc m mg mc w : Nat) (a n : Int) (v : Nat) (da : Option Addr) (dl dc : Nat) (ka : Option Addr) (kl kc : Nat) (aa : Option Addr) (al ac : Nat) (W : World) (u : Value) (Post : Int → World → Prop) (kw : ∀ X, Calls Try.prog 6 #[.int .i64 a, .int .i64 (N : Int)] X fun e w' => e = .returned (.int .i64 (w : Int)) ∧ w' = X) (hwN : w < N) (hN : N ≤ 32) (hm : w / 8 < m)
    (c1 : (W.alloc (.cells #[.int .i64 4, .int .i64 a, .int .i64 n, .int .u64 (v : Int), .slice da dl dc, .slice ka kl kc, .slice aa al ac] 59)).cell? ⟨p, 1, none⟩ = some (.slice (some ⟨sg, 0, none⟩) N sc)) (c5 : (W.alloc (.cells #[.int .i64 4, .int .i64 a, .int .i64 n, .int .u64 (v : Int), .slice da dl dc, .slice ka kl kc, .slice aa al ac] 59)).cell? ⟨p, 5, none⟩ = some (.slice (some ⟨mg, 0, none⟩) m mc)) (cm : (W.alloc (.cells #[.int .i64 4, .int .i64 a, .int .i64 n, .int .u64 (v : Int), .slice da dl dc, .slice ka kl kc, .slice aa al ac] 59)).cell? ⟨mg, w / 8, none⟩ = some u) (fm : (W.alloc (.cells #[.int .i64 4, .int .i64 a, .int .i64 n, .int .u64 (v : Int), .slice da dl dc, .slice ka kl kc, .slice aa al ac] 59)).frozen? ⟨mg, w / 8, none⟩ = false)
    (c0 : ((W.alloc (.cells #[.int .i64 4, .int .i64 a, .int .i64 n, .int .u64 (v : Int), .slice da dl dc, .slice ka kl kc, .slice aa al ac] 59)).setCell ⟨mg, w / 8, none⟩ (.int .i64 1)).cell? ⟨p, 0, none⟩ = some (.pointer (some ⟨b, 0, none⟩)))
    (ks : Calls Try.prog 18 #[.pointer (some ⟨b, 0, none⟩), .int .i64 (8 * (w : Int))] ((W.alloc (.cells #[.int .i64 4, .int .i64 a, .int .i64 n, .int .u64 (v : Int), .slice da dl dc, .slice ka kl kc, .slice aa al ac] 59)).setCell ⟨mg, w / 8, none⟩ (.int .i64 1)) fun e X => ∃ c, e = .returned (.int .i64 c) ∧ Post c X) :
    Calls Try.prog 23 #[.pointer (some ⟨p, 0, none⟩), .agg #[.int .i64 4, .int .i64 a, .int .i64 n, .int .u64 (v : Int), .slice da dl dc, .slice ka kl kc, .slice aa al ac]] W fun e W' => ∃ c, e = .returned (.bool (decide (c = 0))) ∧ Post c W' := by
  have KW := hide kw
  have KS := hide ks
  have htd := tdiv8 w
  have ix := fun X => index_ints mg 0 (w / 8) m mc hm X
  simp only [Nat.zero_add] at ix
  have wI : (w : Int) < (N : Int) := by omega
  have NI : (N : Int) ≤ 32 := by omega
  have lI : ((w / 8 : Nat) : Int) ≤ 4 := by omega
  generalize w / 8 = l at *
  have hbx := heap_alloc_new W (.cells #[.int .i64 4, .int .i64 a, .int .i64 n, .int .u64 (v : Int), .slice da dl dc, .slice ka kl kc, .slice aa al ac] 59)
  have d0 := cell8 hbx 0
  have d1 := cell8 hbx 1
  have d3 := cell8 hbx 3
  simp only [List.getElem?_toArray, List.getElem?_cons_zero, List.getElem?_cons_succ] at d0 d1 d3
  clear kw ks hm hbx
  go_enter Try.func23, Try.ntmps23
  go_upto_region 1 with (fail)
  generalize hW1 : (W.alloc (.cells #[.int .i64 4, .int .i64 a, .int .i64 n, .int .u64 (v : Int), .slice da dl dc, .slice ka kl kc, .slice aa al ac] 59)) = W1 at *
  clear hW1
  go_wp2_with (first
    | (go_at_call 6; refine (KW.out _).mono ?_; rintro e w' ⟨rfl, hw⟩; obtain rfl := hw.symm)
    | (go_at_call 18; refine (KS.out).mono ?_; rintro e W3 ⟨c, rfl, hr⟩; have HR := hide hr; clear hr))
  go_ret
  exact ⟨c, rfl, HR.out⟩
set_option maxRecDepth 100000 in
set_option maxHeartbeats 1000000 in
theorem play_none (p b N sg sc w : Nat) (a n : Int) (v : Nat) (da : Option Addr) (dl dc : Nat) (ka : Option Addr) (kl kc : Nat) (aa : Option Addr) (al ac : Nat) (W : World) (k : Int) (h2 : ¬ k = 2) (h3 : ¬ k = 3) (h4 : ¬ k = 4) (h5 : ¬ k = 5) (kw : ∀ X, Calls Try.prog 6 #[.int .i64 a, .int .i64 (N : Int)] X fun e w' => e = .returned (.int .i64 (w : Int)) ∧ w' = X) (hwN : w < N) (hN : N ≤ 32)
    (c1 : (W.alloc (.cells #[.int .i64 k, .int .i64 a, .int .i64 n, .int .u64 (v : Int), .slice da dl dc, .slice ka kl kc, .slice aa al ac] 59)).cell? ⟨p, 1, none⟩ = some (.slice (some ⟨sg, 0, none⟩) N sc)) :
    Calls Try.prog 23 #[.pointer (some ⟨p, 0, none⟩), .agg #[.int .i64 k, .int .i64 a, .int .i64 n, .int .u64 (v : Int), .slice da dl dc, .slice ka kl kc, .slice aa al ac]] W fun e W' => e = .returned (.bool true) ∧ W' = (W.alloc (.cells #[.int .i64 k, .int .i64 a, .int .i64 n, .int .u64 (v : Int), .slice da dl dc, .slice ka kl kc, .slice aa al ac] 59)) := by
  have KW := hide kw
  have htd := tdiv8 w
  have wI : (w : Int) < (N : Int) := by omega
  have NI : (N : Int) ≤ 32 := by omega
  have lI : ((w / 8 : Nat) : Int) ≤ 4 := by omega
  generalize w / 8 = l at *
  clear kw
  go_enter Try.func23, Try.ntmps23
  go_wp2_with (first
    | (go_at_call 6; refine (KW.out _).mono ?_; rintro e w' ⟨rfl, hw⟩; obtain rfl := hw.symm))
  go_ret
  exact ⟨rfl, rfl⟩
end Go.Proofs.Ytmgeokmgidnneaa
