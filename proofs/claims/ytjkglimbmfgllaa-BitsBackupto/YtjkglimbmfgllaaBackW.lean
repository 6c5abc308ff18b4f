/- The road of BitsBack: for all bytes ahead and behind, and every number, it returns true and writes nothing that was there. -/
import Derived.Test.YtjkglimbmfgllaaDisp
import Derived.Test.YtjkglimbmfgllaaWorks
namespace Go.Proofs.Ytjkglimbmfgllaa.bitsBack
open Go.RowKit Go.Proofs.Ytjkglimbmfgllaa
set_option linter.unusedVariables false

theorem take_mid (ah be : List Nat) (n v : Nat) : takeV (ah ++ leB n v ++ be) ah.length n = (v % 256 ^ n, 0) := by
  unfold takeV
  rw [if_neg (by simp [leB_length]; omega), Int.toNat_natCast, List.append_assoc, List.drop_left, List.take_left' (leB_length n v), leV_leB]
theorem take_over (bs : List Nat) (p : Int) (n : Nat) (h : (bs.length : Int) - n < p) : takeV bs p n = (0, 6) := by
  unfold takeV
  rw [if_pos (.inr h)]
theorem own2 {W : World} {g n v : Nat} {ah : List Nat} (h : OwnB W g (ah ++ leB n v)) (hm : ah.length + n ≤ maxLen) :
    W.ownsRow g 5 1 (.slice (some ⟨g, 0, none⟩) (ah.length + n) (ah.length + n)) (ah ++ leB n v).length ((ah ++ leB n v).map B8) := by
  have e : (ah ++ leB n v).length = ah.length + n := by simp [leB_length]
  have h2 := owns_of_ownB h (Nat.le_refl _) (by rw [e]; exact hm)
  rw [e] at h2 ⊢
  exact h2
theorem len3 (ah be : List Nat) (n v : Nat) : (ah ++ leB n v ++ be).length = ah.length + n + be.length := by simp [leB_length]; omega
theorem all_lt (ah be : List Nat) (n v : Nat) (h1 : ∀ x ∈ ah, x < 256) (h2 : ∀ x ∈ be, x < 256) : ∀ x ∈ ah ++ leB n v ++ be, x < 256 := by
  intro x hx
  rcases List.mem_append.1 hx with h | h
  · rcases List.mem_append.1 h with h | h
    · exact h1 x h
    · exact leB_lt n v x h
  · exact h2 x h

set_option maxHeartbeats 1000000 in
theorem walk (a0 : Option Addr) (cap0 : Nat) (ah : List Nat) (a1 : Option Addr) (cap1 : Nat) (be : List Nat) (v : Nat) (w : World) (h0 : Sl w a0 ah) (h1 : Sl w a1 be) (hnil : a1 = none → cap1 = 0) (hv : v < 18446744073709551616) (hl0 : ah.length ≤ 1048576) (hl1 : be.length ≤ 1048576) :
    Calls Try.prog 8 #[.slice a0 ah.length cap0, .slice a1 be.length cap1, .int .u64 v] w fun e w' => e = .returned (.bool true) ∧ Below w.heap.size w w' := by
  go_enter Try.func8, Try.ntmps8
  go_wp2
  go_loopw [7] (fun s wr => (s = .int .i64 1 ∨ s = .int .i64 2 ∨ s = .int .i64 4 ∨ s = .int .i64 8 ∨ s = .int .i64 16) ∧ Below w.heap.size w wr) (fun s _ => 16 - (intOf s).toNat)
  case atStart => exact ⟨.inl rfl, Below.refl _ _⟩
  case round =>
    obtain ⟨hs, hB⟩ := hrel
    have HB := hide hB
    have H0 : Hid (Sl wr a0 ah) := h0.below hB
    have H1 : Hid (Sl wr a1 be) := h1.below hB
    have HN := hide hnil
    clear hB h0 h1 hnil
    rcases hs with rfl | rfl | rfl | rfl | rfl
    · go_wp2_with (first | (go_at_call 17; refine (copyBytes_any a0 cap0 ah _ H0.out (by omega)).mono ?_; rintro e w1 ⟨rfl, hO1, hB1⟩) | (go_at_call 10; refine (putD1 _ ah.length v ah _ (hO1.sl H0.out.lt) (by omega) hv).mono ?_; rintro e w2 ⟨rfl, hB2, hO2⟩; have ho2 := own2 hO2 (by unfold maxLen; omega); have hs2 := (H1.out.below hB1).below hB2) | (at_builtin; refine wpList_app_bytes rfl (.tmp 21) (.tmp 22) rfl _ _ (ah ++ leB 1 v) rfl ho2 a1 cap1 be rfl HN.out hs2 (by simp [leB_length]; omega) hB2.size ?_; intro v3 w3 hO3 hB3; have h3 := sl_of_owns hO3 (all_lt ah be 1 v H0.out.lt H1.out.lt); rw [len3 ah be 1 v] at h3; obtain ⟨a3, cap3, rfl, hs3⟩ := h3))
      have HB3 : Hid (Below w.heap.size w w3) := bseq HB.out ((bseq hB1 hB2).trans (hB3.mono hB1.size))
      have tk := takeD1 a3 cap3 (ah ++ leB 1 v ++ be) ah.length w3 hs3 (by rw [len3]; unfold maxLen; omega)
      have te : ∀ p : Int, (ah.length : Int) + 1 + be.length - 1 < p → Calls Try.prog 18 #[.slice a3 (ah.length + 1 + be.length) cap3, .int .i64 p, .int .i64 1] w3 fun e w' => e = .returned (.tuple #[.int .u64 0, .int .i64 6]) ∧ w' = w3 := fun p hp => by
        have h := takeD1 a3 cap3 (ah ++ leB 1 v ++ be) p w3 hs3 (by rw [len3]; unfold maxLen; omega)
        rw [take_over _ p 1 (by rw [len3]; omega), len3] at h
        exact h
      rw [take_mid, len3] at tk
      have TE := hide te
      have TK := hide tk
      clear te tk hs3 hs2 ho2 hO1 hB1 hO2 hB2 hO3 hB3
      refine (unhide TK).mono ?_
      rintro e w4 ⟨rfl, rfl⟩
      clear TK
      go_wp2_with (go_at_call 12; refine (cutD1 v _ hv).mono ?_; rintro e w5 ⟨rfl, rfl⟩)
      refine (unhide TE _ (by omega)).mono ?_
      rintro e w6 ⟨rfl, rfl⟩
      clear TE
      go_wp2
      go_roundw
      case rel => exact ⟨.inr (.inl rfl), HB3.out⟩
      case measure => simp [intOf]
    · go_wp2_with (first | (go_at_call 17; refine (copyBytes_any a0 cap0 ah _ H0.out (by omega)).mono ?_; rintro e w1 ⟨rfl, hO1, hB1⟩) | (go_at_call 10; refine (putD2 _ ah.length v ah _ (hO1.sl H0.out.lt) (by omega) hv).mono ?_; rintro e w2 ⟨rfl, hB2, hO2⟩; have ho2 := own2 hO2 (by unfold maxLen; omega); have hs2 := (H1.out.below hB1).below hB2) | (at_builtin; refine wpList_app_bytes rfl (.tmp 21) (.tmp 22) rfl _ _ (ah ++ leB 2 v) rfl ho2 a1 cap1 be rfl HN.out hs2 (by simp [leB_length]; omega) hB2.size ?_; intro v3 w3 hO3 hB3; have h3 := sl_of_owns hO3 (all_lt ah be 2 v H0.out.lt H1.out.lt); rw [len3 ah be 2 v] at h3; obtain ⟨a3, cap3, rfl, hs3⟩ := h3))
      have HB3 : Hid (Below w.heap.size w w3) := bseq HB.out ((bseq hB1 hB2).trans (hB3.mono hB1.size))
      have tk := takeD2 a3 cap3 (ah ++ leB 2 v ++ be) ah.length w3 hs3 (by rw [len3]; unfold maxLen; omega)
      have te : ∀ p : Int, (ah.length : Int) + 2 + be.length - 2 < p → Calls Try.prog 18 #[.slice a3 (ah.length + 2 + be.length) cap3, .int .i64 p, .int .i64 2] w3 fun e w' => e = .returned (.tuple #[.int .u64 0, .int .i64 6]) ∧ w' = w3 := fun p hp => by
        have h := takeD2 a3 cap3 (ah ++ leB 2 v ++ be) p w3 hs3 (by rw [len3]; unfold maxLen; omega)
        rw [take_over _ p 2 (by rw [len3]; omega), len3] at h
        exact h
      rw [take_mid, len3] at tk
      have TE := hide te
      have TK := hide tk
      clear te tk hs3 hs2 ho2 hO1 hB1 hO2 hB2 hO3 hB3
      refine (unhide TK).mono ?_
      rintro e w4 ⟨rfl, rfl⟩
      clear TK
      go_wp2_with (go_at_call 12; refine (cutD2 v _ hv).mono ?_; rintro e w5 ⟨rfl, rfl⟩)
      refine (unhide TE _ (by omega)).mono ?_
      rintro e w6 ⟨rfl, rfl⟩
      clear TE
      go_wp2
      go_roundw
      case rel => exact ⟨.inr (.inr (.inl rfl)), HB3.out⟩
      case measure => simp [intOf]
    · go_wp2_with (first | (go_at_call 17; refine (copyBytes_any a0 cap0 ah _ H0.out (by omega)).mono ?_; rintro e w1 ⟨rfl, hO1, hB1⟩) | (go_at_call 10; refine (putD4 _ ah.length v ah _ (hO1.sl H0.out.lt) (by omega) hv).mono ?_; rintro e w2 ⟨rfl, hB2, hO2⟩; have ho2 := own2 hO2 (by unfold maxLen; omega); have hs2 := (H1.out.below hB1).below hB2) | (at_builtin; refine wpList_app_bytes rfl (.tmp 21) (.tmp 22) rfl _ _ (ah ++ leB 4 v) rfl ho2 a1 cap1 be rfl HN.out hs2 (by simp [leB_length]; omega) hB2.size ?_; intro v3 w3 hO3 hB3; have h3 := sl_of_owns hO3 (all_lt ah be 4 v H0.out.lt H1.out.lt); rw [len3 ah be 4 v] at h3; obtain ⟨a3, cap3, rfl, hs3⟩ := h3))
      have HB3 : Hid (Below w.heap.size w w3) := bseq HB.out ((bseq hB1 hB2).trans (hB3.mono hB1.size))
      have tk := takeD4 a3 cap3 (ah ++ leB 4 v ++ be) ah.length w3 hs3 (by rw [len3]; unfold maxLen; omega)
      have te : ∀ p : Int, (ah.length : Int) + 4 + be.length - 4 < p → Calls Try.prog 18 #[.slice a3 (ah.length + 4 + be.length) cap3, .int .i64 p, .int .i64 4] w3 fun e w' => e = .returned (.tuple #[.int .u64 0, .int .i64 6]) ∧ w' = w3 := fun p hp => by
        have h := takeD4 a3 cap3 (ah ++ leB 4 v ++ be) p w3 hs3 (by rw [len3]; unfold maxLen; omega)
        rw [take_over _ p 4 (by rw [len3]; omega), len3] at h
        exact h
      rw [take_mid, len3] at tk
      have TE := hide te
      have TK := hide tk
      clear te tk hs3 hs2 ho2 hO1 hB1 hO2 hB2 hO3 hB3
      refine (unhide TK).mono ?_
      rintro e w4 ⟨rfl, rfl⟩
      clear TK
      go_wp2_with (go_at_call 12; refine (cutD4 v _ hv).mono ?_; rintro e w5 ⟨rfl, rfl⟩)
      refine (unhide TE _ (by omega)).mono ?_
      rintro e w6 ⟨rfl, rfl⟩
      clear TE
      go_wp2
      go_roundw
      case rel => exact ⟨.inr (.inr (.inr (.inl rfl))), HB3.out⟩
      case measure => simp [intOf]
    · go_wp2_with (first | (go_at_call 17; refine (copyBytes_any a0 cap0 ah _ H0.out (by omega)).mono ?_; rintro e w1 ⟨rfl, hO1, hB1⟩) | (go_at_call 10; refine (putD8 _ ah.length v ah _ (hO1.sl H0.out.lt) (by omega) hv).mono ?_; rintro e w2 ⟨rfl, hB2, hO2⟩; have ho2 := own2 hO2 (by unfold maxLen; omega); have hs2 := (H1.out.below hB1).below hB2) | (at_builtin; refine wpList_app_bytes rfl (.tmp 21) (.tmp 22) rfl _ _ (ah ++ leB 8 v) rfl ho2 a1 cap1 be rfl HN.out hs2 (by simp [leB_length]; omega) hB2.size ?_; intro v3 w3 hO3 hB3; have h3 := sl_of_owns hO3 (all_lt ah be 8 v H0.out.lt H1.out.lt); rw [len3 ah be 8 v] at h3; obtain ⟨a3, cap3, rfl, hs3⟩ := h3))
      have HB3 : Hid (Below w.heap.size w w3) := bseq HB.out ((bseq hB1 hB2).trans (hB3.mono hB1.size))
      have tk := takeD8 a3 cap3 (ah ++ leB 8 v ++ be) ah.length w3 hs3 (by rw [len3]; unfold maxLen; omega)
      have te : ∀ p : Int, (ah.length : Int) + 8 + be.length - 8 < p → Calls Try.prog 18 #[.slice a3 (ah.length + 8 + be.length) cap3, .int .i64 p, .int .i64 8] w3 fun e w' => e = .returned (.tuple #[.int .u64 0, .int .i64 6]) ∧ w' = w3 := fun p hp => by
        have h := takeD8 a3 cap3 (ah ++ leB 8 v ++ be) p w3 hs3 (by rw [len3]; unfold maxLen; omega)
        rw [take_over _ p 8 (by rw [len3]; omega), len3] at h
        exact h
      rw [take_mid, len3] at tk
      have TE := hide te
      have TK := hide tk
      clear te tk hs3 hs2 ho2 hO1 hB1 hO2 hB2 hO3 hB3
      refine (unhide TK).mono ?_
      rintro e w4 ⟨rfl, rfl⟩
      clear TK
      go_wp2_with (go_at_call 12; refine (cutD8 v _ hv).mono ?_; rintro e w5 ⟨rfl, rfl⟩)
      refine (unhide TE _ (by omega)).mono ?_
      rintro e w6 ⟨rfl, rfl⟩
      clear TE
      go_wp2
      go_roundw
      case rel => exact ⟨.inr (.inr (.inr (.inr rfl))), HB3.out⟩
      case measure => simp [intOf]
    · go_wp2_with (go_at_call 16; refine (works_any _).mono ?_; rintro e w1 ⟨rfl, hB1⟩)
      go_ret
      exact ⟨rfl, bseq HB.out hB1⟩

end Go.Proofs.Ytjkglimbmfgllaa.bitsBack
