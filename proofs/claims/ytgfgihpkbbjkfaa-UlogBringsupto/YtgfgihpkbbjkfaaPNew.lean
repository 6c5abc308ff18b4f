/- Package pmem: New, Crash. -/
import Derived.Test.YtgfgihpkbbjkfaaPLos
namespace Go.Proofs.Ytgfgihpkbbjkfaa
open Go.RowKit Go.Shelf
set_option linter.unusedVariables false

section
variable {w : World} {b : Nat} {L : Lay} {σ : St} {a : Option Addr} {kp : List Nat}
theorem pcrash_off (cap : Nat) (h : DevL w b L σ) (ho : σ.off = true) (l : Nat) : Calls Try.prog 44 #[.pointer (some ⟨b, 0, none⟩), .slice a l cap] w fun e w' => e = .returned (.int .i64 5) ∧ w' = w := by
  have ks := pstate_any h
  rw [ho] at ks
  simp only [if_true] at ks
  have KS := hide ks
  clear h ks
  go_enter Try.func44, Try.ntmps44
  go_wp2_with (go_at_call 37; refine (KS.out).mono ?_; rintro e w' ⟨rfl, rfl⟩)
  go_ret
  exact ⟨rfl, rfl⟩
theorem pcrash_any (cap : Nat) (h : DevL w b L σ) (hok : σ.Ok) (ho : σ.off = false) (hk : SlN w a kp) (hkl : kp.length ≤ 17592186043904) : Calls Try.prog 44 #[.pointer (some ⟨b, 0, none⟩), .slice a kp.length cap] w fun e w' =>
    e = .returned (.int .i64 0) ∧ ∃ L' σ', Lost σ kp σ' ∧ DevL w' b L' σ' ∧ (∀ k, Foot b L' σ' k → Foot b L σ k ∨ w.heap.size ≤ k) ∧ Gr (fun k => k = b ∨ k = L.sb) w w' ∧ L'.N ≤ L.N := by
  have ks := pstate_any h
  rw [ho] at ks
  simp only [Bool.false_eq_true, if_false] at ks
  have KS := hide ks
  have KM := hide (pmay_any cap hk hkl)
  have KL := hide (plose_any cap h hok hk hkl)
  clear h hok hk ks
  go_enter Try.func44, Try.ntmps44
  go_wp2_with (first | (go_at_call 37; refine (KS.out).mono ?_; rintro e w' ⟨rfl, hw⟩; obtain rfl := hw.symm) | (go_at_call 38; refine (KM.out).mono ?_; rintro e w' ⟨rfl, hw⟩; obtain rfl := hw.symm) | (go_at_call 66; refine (KL.out).mono ?_; rintro e w' ⟨rfl, hw⟩; have HW := hide hw; clear hw))
  go_ret
  exact ⟨rfl, HW.out⟩
theorem Lost.ok {σ' : St} (h : σ.Ok) (hl : Lost σ kp σ') : σ'.Ok := by
  obtain ⟨h1, h2, h3, h4, h5, h6, h7, h8, h9, h10⟩ := hl
  refine ⟨by rw [h1]; exact h.pos, by rw [h1]; exact h.max, by rw [h1]; exact h8, h9, fun _ _ => by rw [h2], fun i c hc => ?_, fun i c hc => ?_, fun i => by rw [h2]; exact Nat.zero_le _, fun i k hk => ?_, by rw [h4]; exact h.opsm⟩
  · rw [h2] at hc; cases hc
  · rw [h2] at hc; cases hc
  · rw [h3] at hk; cases hk
end
theorem made_zero (n : Nat) : madeCells (Array.replicate 64 (Value.int .u8 0)) n = ((List.replicate n 0).map B8).toArray := by
  unfold madeCells
  apply Array.ext
  · simp
  · intro i h1 h2
    have : i % 64 < 64 := Nat.mod_lt _ (by omega)
    simp [B8, this]
theorem make_run (n : Nat) (hn : n ≤ 65536) (w : World) : (Instr.makeSlice 65 (.int .i64 (n : Int)) (.int .i64 (n : Int))).run Try.prog w = .ok (.slice (some ⟨w.heap.size, 0, none⟩) n n) (w.alloc (.cells ((List.replicate (64 * n) 0).map B8).toArray 73)) := by
  have hI : (Try.prog.info? 73).map (fun i => (i.zero.map (·.cells), i.size, i.bytes)) = some (some (Array.replicate 64 (Value.int .u8 0)), 64, 64) := by kernel_rfl
  obtain ⟨i, hi, hz⟩ := Option.map_eq_some_iff.1 hI
  simp only [Prod.mk.injEq] at hz
  obtain ⟨hz1, hs, hb⟩ := hz
  obtain ⟨z, hz2, hz3⟩ := Option.map_eq_some_iff.1 hz1
  have h := run_make (P := Try.prog) w 65 73 i z Try.underlying65 hi hz2 .i64 .i64 (n : Int) (n : Int) (by omega) (Int.le_refl _) (by rw [hb]; omega) (by omega)
  rw [h, hz3, hs, made_zero]
  simp [Nat.mul_comm]
/-- A new device. -/
def newD (n : Nat) : St := ⟨n, List.replicate (64 * n) 0, fun _ => [], fun _ => none, 0, [], 0, false⟩
theorem newD_ok {n : Nat} (h : 1 ≤ n) (h' : n ≤ 65536) : (newD n).Ok := by
  refine ⟨h, h', by simp [newD], fun x hx => ?_, fun _ _ => rfl, fun i c hc => (by cases hc), fun i c hc => (by cases hc), fun i => Nat.zero_le _, fun i k hk => (by cases hk), by show 0 ≤ _; omega⟩
  have : x = 0 := by simp [newD] at hx; exact hx.2
  omega
set_option maxRecDepth 100000 in
set_option maxHeartbeats 1000000 in
theorem pnew_any (w : World) (n : Nat) (h1 : 1 ≤ n) (h2 : n ≤ 65536) : Calls Try.prog 49 #[.int .i64 ((64 * n : Nat) : Int)] w fun e w' => ∃ b L, e = .returned (.tuple #[.pointer (some ⟨b, 0, none⟩), .int .i64 0]) ∧ DevL w' b L (newD n) ∧ (∀ k, Foot b L (newD n) k → w.heap.size ≤ k) ∧ Below w.heap.size w w' ∧ L.N = 0 := by
  obtain ⟨sz, hsz⟩ : ∃ sz : Int, sz = ((64 * n : Nat) : Int) := ⟨_, rfl⟩
  rw [← hsz]
  have htd : sz.tdiv 64 = (n : Int) := by rw [Int.tdiv_eq_ediv_of_nonneg (by omega)]; omega
  have htm : sz.tmod 64 = 0 := by rw [Int.tmod_eq_emod_of_nonneg (by omega)]; omega
  have s1 : ¬ sz < 64 := by omega
  have s2 : ¬ 4194304 < sz := by omega
  have hmk := make_run n h2 w
  obtain ⟨R, hR⟩ : ∃ R, R = ((List.replicate (64 * n) 0).map B8).toArray := ⟨_, rfl⟩
  rw [← hR] at hmk
  have HR := hide hR
  have nI : (n : Int) ≤ 65536 := by omega
  obtain ⟨X, hX⟩ : ∃ X, X = (w.alloc (.cells R 73)).alloc (.cells #[.pointer (some ⟨w.heap.size + 1, 0, none⟩), .slice (some ⟨w.heap.size, 0, none⟩) n n, .map none, .map none, .int .i64 0, .slice none 0 0, .int .i64 0, .bool false] 69) := ⟨_, rfl⟩
  have xs : X.heap.size = w.heap.size + 2 := by rw [hX]; simp
  have xd : X.heap[w.heap.size + 1]? = some (.cells #[.pointer (some ⟨w.heap.size + 1, 0, none⟩), .slice (some ⟨w.heap.size, 0, none⟩) n n, .map none, .map none, .int .i64 0, .slice none 0 0, .int .i64 0, .bool false] 69 (0, 0)) := by
    rw [hX]
    have h5 := heapNew (w.alloc (.cells R 73)) (.cells #[.pointer (some ⟨w.heap.size + 1, 0, none⟩), .slice (some ⟨w.heap.size, 0, none⟩) n n, .map none, .map none, .int .i64 0, .slice none 0 0, .int .i64 0, .bool false] 69)
    have h6 : (w.alloc (.cells R 73)).heap.size = w.heap.size + 1 := by simp
    rw [h6] at h5
    exact h5
  have xB : Below w.heap.size w X := by rw [hX]; exact ((Below.refl _ w).alloc (Nat.le_refl _) _).alloc (by simp) _
  have xr : X.heap[w.heap.size]? = some (.cells R 73 (0, 0)) := by
    rw [hX]
    exact (((Below.refl _ (w.alloc (.cells R 73))).alloc (Nat.le_refl _) _).block _ (by simp)).trans (heapNew w _)
  have ks := psettle_any xd
  rw [hX] at ks
  have KS := hide ks
  have HX := hide hX
  have XS := hide xs
  have XD := hide xd
  have XB := hide xB
  have XR := hide xr
  clear hX xs xd xB xr ks
  have H1 := hide h1
  have H2 := hide h2
  clear hsz h1 h2 hR
  go_enter Try.func49, Try.ntmps49
  go_wp2_with (go_at_call 69; refine (KS.out).mono ?_; rintro e w' ⟨rfl, hw⟩; have HW := hide hw; clear hw)
  go_ret2
  have hw := HW.out
  rw [← HX.out] at hw
  obtain ⟨f1, f2, f3, f4, f5⟩ := setW_facts XD.out
  rw [← hw] at f1 f2 f3 f4 f5
  rw [XS.out] at f1 f2 f3 f5
  refine ⟨w.heap.size + 1, ⟨w.heap.size, w.heap.size + 2, w.heap.size + 3, .slice none 0 0, fun _ => 0, fun _ => .slice none 0 0, fun _ => False, 0, n, []⟩, rfl, ⟨f1, ?_, f2.congr (fun x => ?_), f3.congr (fun x => ?_), fun i hi => absurd rfl hi, fun i j hi => absurd rfl hi, fun i j g hi => absurd rfl hi, (by show w.heap.size + 2 ≠ w.heap.size + 3; omega), ?_, fun k hk => absurd hk (fun h => h)⟩, fun k hk => ?_, ?_, rfl⟩
  · have h5 := (f4.block (lt_of_heap XR.out) (by omega)).trans XR.out
    rw [HR.out, ← List.append_nil (List.map B8 _)] at h5
    exact h5
  · unfold oldF; rw [if_neg (fun h => h.2 rfl)]
  · unfold flF; split <;> rfl
  · exact ArmsR.none _ _
  · rcases hk with h | h | h | h | ⟨i, hi, _⟩ | h | h
    · omega
    · exact Nat.le_of_eq h.symm
    · show w.heap.size ≤ k; rw [h]; show w.heap.size ≤ w.heap.size + 2; omega
    · show w.heap.size ≤ k; rw [h]; show w.heap.size ≤ w.heap.size + 3; omega
    · exact absurd rfl hi
    · cases h
    · exact absurd h (fun h => h)
  · have h5 := XS.out
    exact ⟨f4.1.trans XB.out.os, f4.2.1.trans XB.out.tape, f4.2.2.1.trans XB.out.output, Nat.le_trans XB.out.size f4.size, fun k hk => (f4.block (by omega) (by omega)).trans (XB.out.block k hk)⟩
end Go.Proofs.Ytgfgihpkbbjkfaa
