/- What the document's Columns answers. -/
import Derived.Test.YtobemmfgpjgiaaaKRunes
import Derived.Test.YtobemmfgpjgiaaaUChs
namespace Go.Proofs.Ytobemmfgpjgiaaa
open Go.RowKit Go.Shelf
set_option linter.unusedVariables false

set_option maxHeartbeats 4000000 in
theorem rcol_any (s : ByteArray) (from' tab : Int) (w : World) (hs : s.size ≤ 1048576) :
    Calls Try.prog 27 #[.string s, .int .i64 from', .int .i64 tab] w fun e w' => e = .returned (.int .i64 (colV (bl s) from' tab)) ∧ Below w.heap.size w w' := by
  have kc := fun w => chars_any s w hs
  have hcl := Cs_len_le (bl s)
  rw [bl_len] at hcl
  have ht := tabV_bd tab
  have hte : tabV tab = min (max 1 tab) 16 := rfl
  obtain ⟨R, hR⟩ : ∃ R, colV (bl s) from' tab = R := ⟨_, rfl⟩
  rw [hR]
  unfold colV at hR
  generalize tabV tab = t at *
  obtain ⟨f, hf⟩ : ∃ f, max 0 from' = f := ⟨_, rfl⟩
  have hf0 : 0 ≤ f := by omega
  rw [hf] at hR
  have hCB : ∀ (n : Int) (r : Nat), 0 ≤ n → 0 ≤ colC t (f % t) n r ∧ colC t (f % t) n r ≤ 16 := fun n r h => colC_bd r ht (emod_bd f t ht.1).1 h
  have HCB := hide hCB
  clear hCB
  have hWW : ∀ n : Int, 0 ≤ n → n ≤ 1073741824 → (IntKind.i64.wrap (n + t) = n + t ∧ IntKind.i64.wrap (f % t + n % t) = f % t + n % t) ∧ (IntKind.i64.wrap (n + t - (f % t + n % t) % t) = n + t - (f % t + n % t) % t ∧ IntKind.i64.wrap (n + t - (f + n) % t) = n + t - (f + n) % t) ∧ n + t - (f + n) % t = n + (t - (f % t + n) % t) := fun n h1 h2 => by
    have e1 := emod_bd f t ht.1
    have e2 := emod_bd n t ht.1
    have e3 := emod_bd (f % t + n % t) t ht.1
    have e4 := emod_bd (f + n) t ht.1
    simp only [IntKind.wrap_i64]
    refine ⟨⟨by omega, by omega⟩, ⟨by omega, by omega⟩, ?_⟩
    rw [Int.emod_add_emod]; omega
  have HWW := hide hWW
  clear hWW
  generalize Cs 0 (bl s) = L at *
  generalize hm : L.length = m at *
  have HR := hide hR
  have HM := hide hm
  have KC := hide kc
  clear hR kc hm
  go_enter Try.func27, Try.ntmps27
  go_wp2_with (go_at_call 35; refine (KC.out _).mono ?_; rintro e w1 ⟨a, cap, rfl, hsl, hB⟩)
  all_goals
    first | (have e : t = 1 := (by omega); subst e) | (have e : t = 16 := (by omega); subst e) | (have e : t = tab := (by omega); subst e)
    first | (have e : f = 0 := (by omega); subst e) | (have e : f = from' := (by omega); subst e)
    clear hte hf
  all_goals
    have HSL := hide hsl
    have HB := hide hB
    have ht1 := ht.1
    have ht2 := ht.2
    clear hsl hB ht KC
    go_loopw [8, 9] (fun q i wr => ∃ (n : Int) (k : Nat), q = .int .i64 n ∧ i = .int .i64 (k : Int) ∧ k ≤ m ∧ 0 ≤ n ∧ n ≤ 16 * k ∧ colL _ _ n (L.drop k) = R ∧ Below w1.heap.size w1 wr) (fun _ i _ => m - (intOf i).toNat)
    case atStart => exact ⟨0, 0, rfl, rfl, by omega, by omega, by omega, by simpa using HR.out, Below.refl _ _⟩
    case round =>
      clear HR
      obtain ⟨n, k, rfl, rfl, hk, hn0, hn1, hL, hBr⟩ := hrel
      by_cases hlt : k < m
      · have hltI : (k : Int) < (m : Int) := by omega
        obtain ⟨e, he⟩ : ∃ e, L[k]? = some e := ⟨_, List.getElem?_eq_getElem (by rw [HM.out]; exact hlt)⟩
        obtain ⟨b, rfl, hcell⟩ : ∃ b, a = some ⟨b, 0, none⟩ ∧ wr.cell? ⟨b, k * 4 + 1, none⟩ = some (.int .i32 (e.2.1 : Int)) := by
          rcases (HSL.out.below hBr) with h | ⟨b, ha, _, hh⟩
          · rw [h] at he; simp at he
          · exact ⟨b, ha, (hh k e he).2.1⟩
        have hd : L.drop k = e :: L.drop (k + 1) := by
          obtain ⟨h1, h2⟩ := List.getElem?_eq_some_iff.1 he
          rw [List.drop_eq_getElem_cons h1, h2]
        rw [hd] at hL
        simp only [colL] at hL
        generalize e.2.1 = r at *
        have hcb := HCB.out n r hn0
        try simp only [Int.zero_emod] at hcb
        have HBr := hide hBr
        clear he hd hBr
        by_cases hr : r = 9
        · subst hr
          rw [colC_9] at hL hcb
          have HL := hide hL
          clear hL
          obtain ⟨⟨W1, W2⟩, ⟨W3, W4⟩, W5⟩ := HWW.out n hn0 (by omega)
          try simp only [Int.emod_one, Int.zero_emod, Int.zero_add, Int.add_zero] at W1
          try simp only [Int.emod_one, Int.zero_emod, Int.zero_add, Int.add_zero] at W2
          try simp only [Int.emod_one, Int.zero_emod, Int.zero_add, Int.add_zero, Int.emod_emod] at W3
          try simp only [Int.emod_one, Int.zero_add] at W4
          try simp only [Int.emod_one, Int.zero_emod, Int.zero_add] at W5
          have hW5 := hide W5
          clear W5
          go_wp2
          go_quiet (fail)
          go_wp2
          go_roundw
          case rel =>
            refine ⟨_, k + 1, ?_, by go_num, by omega, by omega, by omega, HL.out, below_drewN HBr.out _⟩
            first | rfl | (congr 1; done) | (congr 1; omega) | (congr 1; have e2 := emod_bd n t ht1; rw [Int.tmod_eq_emod_of_nonneg (by omega), Int.emod_emod, wrap64_id _ (by omega)]; try simp only [Int.zero_add]; try omega) | (congr 1; have e1 := emod_bd f t ht1; have e2 := emod_bd n t ht1; have e3 := emod_bd (f % t + n % t) t ht1; have e4 : (f % t + n % t) % t = (f % t + n) % t := (by rw [Int.emod_add_emod, Int.emod_add_emod, Int.add_emod_emod]); rw [Int.tmod_eq_emod_of_nonneg (by omega), wrap64_id _ (by omega), e4]; try omega)
          case measure => simp [intOf]; omega
        · have hr1 : ((r : Int) == 9) = false := by simp; omega
          rw [colC_ne _ _ _ hr] at hL hcb
          have HL := hide hL
          clear hL hr
          go_wp2_with (go_at_call 16; refine (rwidthK _ _).mono ?_; rintro e w6 ⟨rfl, hB6⟩; replace HBr := hide (bseq HBr.out hB6); clear hB6)
          go_roundw
          case rel => exact ⟨_, k + 1, rfl, by go_num, by omega, by omega, by omega, HL.out, HBr.out⟩
          case measure => simp [intOf]; omega
      · have hltI : (m : Int) ≤ (k : Int) := by omega
        rw [List.drop_eq_nil_of_le (by rw [HM.out]; omega)] at hL
        have HL := hide hL
        clear hL
        go_wp2
        go_ret
        exact ⟨ret_int HL.out, bseq HB.out hBr⟩
end Go.Proofs.Ytobemmfgpjgiaaa
