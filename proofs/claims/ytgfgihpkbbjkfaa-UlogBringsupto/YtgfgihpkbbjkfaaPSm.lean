/- Package pmem: what the small methods of a device answer. -/
import Derived.Test.YtgfgihpkbbjkfaaPEql
import Derived.WalkSmall
namespace Go.Proofs.Ytgfgihpkbbjkfaa
open Go.RowKit
set_option linter.unusedVariables false

section
variable {w : World} {b : Nat} {L : Lay} {σ : St}
theorem pnone_any (h : DevL w b L σ) : Calls Try.prog 26 #[.pointer (some ⟨b, 0, none⟩)] w fun e w' => e = .returned (.bool false) ∧ w' = w := by
  have c0 := h.c0
  have hq := neq_same ⟨b, 0, none⟩ w
  clear h
  go_enter Try.func26, Try.ntmps26
  go_wp2
  go_ret
  exact ⟨rfl, rfl⟩
theorem pstate_any (h : DevL w b L σ) : Calls Try.prog 37 #[.pointer (some ⟨b, 0, none⟩)] w fun e w' => e = .returned (.int .i64 (if σ.off then 5 else 0)) ∧ w' = w := by
  have c7 := h.c7
  have HH := hide h
  clear h
  cases hof : σ.off with
  | true =>
    rw [hof] at c7
    go_enter Try.func37, Try.ntmps37
    go_wp2_with (go_at_call 26; refine (pnone_any HH.out).mono ?_; rintro e w' ⟨rfl, rfl⟩)
    go_ret
    exact ⟨rfl, rfl⟩
  | false =>
    rw [hof] at c7
    go_enter Try.func37, Try.ntmps37
    go_wp2_with (go_at_call 26; refine (pnone_any HH.out).mono ?_; rintro e w' ⟨rfl, rfl⟩)
    go_ret
    exact ⟨rfl, rfl⟩
theorem psize_any (h : DevL w b L σ) (hn : σ.n ≤ 65536) : Calls Try.prog 27 #[.pointer (some ⟨b, 0, none⟩)] w fun e w' => e = .returned (.int .i64 ((64 * σ.n : Nat) : Int)) ∧ w' = w := by
  have c1 := h.c1
  have HH := hide h
  clear h
  have hnI : (σ.n : Int) ≤ 65536 := by omega
  generalize σ.n = n at *
  go_enter Try.func27, Try.ntmps27
  go_wp2_with (go_at_call 26; refine (pnone_any HH.out).mono ?_; rintro e w' ⟨rfl, rfl⟩)
  go_ret
  exact ⟨by have : ((64 * n : Nat) : Int) = (n : Int) * 64 := (by omega); rw [this]; rfl, rfl⟩
/-- Whether so many bytes lie there. -/
def hasB (σ : St) (at_ n : Int) : Bool := decide (0 ≤ at_) && decide (0 ≤ n) && decide (n ≤ (64 * σ.n : Nat) - at_)
theorem pholds_any (h : DevL w b L σ) (hn : σ.n ≤ 65536) (a m : Int) (ha : -9223372036854775808 ≤ a) (ha' : a ≤ 9223372036854775807) : Calls Try.prog 45 #[.pointer (some ⟨b, 0, none⟩), .int .i64 a, .int .i64 m] w fun e w' => e = .returned (.bool (hasB σ a m)) ∧ w' = w := by
  have hb : hasB σ a m = (decide (0 ≤ a) && decide (0 ≤ m) && decide (m ≤ (64 * σ.n : Nat) - a)) := rfl
  have hS := psize_any h hn
  have HS := hide hS
  have hsI : ((64 * σ.n : Nat) : Int) ≤ 4194304 := by omega
  generalize 64 * σ.n = s at *
  clear h hS
  by_cases h1 : 0 ≤ a
  · by_cases h2 : 0 ≤ m
    · rw [decide_eq_true h1, decide_eq_true h2] at hb
      rw [hb]
      clear hb
      by_cases h3 : m ≤ (s : Int) - a
      · rw [decide_eq_true h3]
        go_enter Try.func45, Try.ntmps45
        go_wp2_with (go_at_call 27; refine (HS.out).mono ?_; rintro e w' ⟨rfl, rfl⟩)
        go_ret
        exact ⟨by simp_all, rfl⟩
      · rw [decide_eq_false h3]
        go_enter Try.func45, Try.ntmps45
        go_wp2_with (go_at_call 27; refine (HS.out).mono ?_; rintro e w' ⟨rfl, rfl⟩)
        go_ret
        exact ⟨by simp_all, rfl⟩
    · rw [decide_eq_false h2] at hb
      rw [hb]
      clear hb
      go_enter Try.func45, Try.ntmps45
      go_wp2_with (go_at_call 27; refine (HS.out).mono ?_; rintro e w' ⟨rfl, rfl⟩)
      go_ret
      exact ⟨by simp, rfl⟩
  · rw [decide_eq_false h1] at hb
    rw [hb]
    clear hb
    go_enter Try.func45, Try.ntmps45
    go_wp2_with (go_at_call 27; refine (HS.out).mono ?_; rintro e w' ⟨rfl, rfl⟩)
    go_ret
    exact ⟨by simp, rfl⟩
/-- One operation more, where no loss of power waits. -/
theorem poper_any (h : DevL w b L σ) (hops : σ.ops < 1400000000000) (ha : σ.arms = []) : Calls Try.prog 62 #[.pointer (some ⟨b, 0, none⟩)] w fun e w' =>
    e = .returned (.int .i64 0) ∧ w' = w.setCell ⟨b, 4, none⟩ (.int .i64 ((σ.ops + 1 : Nat) : Int)) ∧ DevL w' b L { σ with ops := σ.ops + 1 } := by
  have c4 := h.c4
  have c5 : w.cell? ⟨b, 5, none⟩ = some L.av := h.c5
  have f4 := h.fz 4
  obtain ⟨ap, ac, hav⟩ : ∃ p c, L.av = .slice p 0 c := by
    obtain ⟨ks, hl, ho, _⟩ := h.arms
    rw [ha] at ho
    rcases ho.2 with ⟨e, _⟩ | ⟨g', cap, cur, e, _⟩
    · exact ⟨_, _, e⟩
    · exact ⟨_, _, e⟩
  rw [hav] at c5
  have hre : DevL (w.setCell ⟨b, 4, none⟩ (.int .i64 ((σ.ops + 1 : Nat) : Int))) b L { σ with ops := σ.ops + 1 } :=
    h.re (ops := σ.ops + 1) (cnt := σ.cnt) (off := σ.off) (by rw [heap_set1 w b 4 _ _ _ h.dev]; rfl) (fun k hk _ => heap_set_ne w b 4 k _ hk)
  have HR := hide hre
  have hI : (σ.ops : Int) < 1400000000000 := by omega
  generalize σ.ops = n at *
  clear h hre ha hav
  go_enter Try.func62, Try.ntmps62
  go_wp2
  go_ret
  have e1 : ((n + 1 : Nat) : Int) = (n : Int) + 1 := by omega
  rw [e1] at HR ⊢
  exact ⟨rfl, rfl, HR.out⟩
theorem poff_any (h : DevL w b L σ) : Calls Try.prog 16 #[.pointer (some ⟨b, 0, none⟩)] w fun e w' => e = .returned (.bool σ.off) ∧ w' = w := by
  have c7 := h.c7
  have HH := hide h
  clear h
  go_enter Try.func16, Try.ntmps16
  go_wp2_with (go_at_call 26; refine (pnone_any HH.out).mono ?_; rintro e w' ⟨rfl, rfl⟩)
  go_ret
  exact ⟨rfl, rfl⟩
theorem pwake_off (h : DevL w b L σ) (ho : σ.off = true) : Calls Try.prog 17 #[.pointer (some ⟨b, 0, none⟩)] w fun e w' =>
    e = .returned (.int .i64 0) ∧ w' = w.setCell ⟨b, 7, none⟩ (.bool false) ∧ DevL w' b L { σ with off := false } := by
  have c7 := h.c7
  rw [ho] at c7
  have f7 := h.fz 7
  have hre : DevL (w.setCell ⟨b, 7, none⟩ (.bool false)) b L { σ with off := false } :=
    h.re (ops := σ.ops) (cnt := σ.cnt) (off := false) (by rw [heap_set1 w b 7 _ _ _ h.dev]; rfl) (fun k hk _ => heap_set_ne w b 7 k _ hk)
  have HR := hide hre
  have HH := hide h
  clear h hre ho
  go_enter Try.func17, Try.ntmps17
  go_wp2_with (go_at_call 26; refine (pnone_any HH.out).mono ?_; rintro e w' ⟨rfl, rfl⟩)
  go_ret
  exact ⟨rfl, rfl, HR.out⟩
theorem pwake_on (h : DevL w b L σ) (ho : σ.off = false) : Calls Try.prog 17 #[.pointer (some ⟨b, 0, none⟩)] w fun e w' => e = .returned (.int .i64 3) ∧ w' = w := by
  have c7 := h.c7
  rw [ho] at c7
  have HH := hide h
  clear h ho
  go_enter Try.func17, Try.ntmps17
  go_wp2_with (go_at_call 26; refine (pnone_any HH.out).mono ?_; rintro e w' ⟨rfl, rfl⟩)
  go_ret
  exact ⟨rfl, rfl⟩
end
end Go.Proofs.Ytgfgihpkbbjkfaa
