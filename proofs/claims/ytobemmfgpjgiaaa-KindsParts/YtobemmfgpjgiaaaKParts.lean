/- The road of KindsParts: for every rune it returns true, and writes nothing that was there. -/
import Derived.Test.YtobemmfgpjgiaaaKAwk
import Derived.Test.YtobemmfgpjgiaaaKPure
namespace Go.Proofs.Ytobemmfgpjgiaaa.kindsParts
open Go.RowKit Go.Shelf Go.Proofs.Ytobemmfgpjgiaaa
set_option linter.unusedVariables false

theorem enc_toList {r : Int} (h : plainR r) : ((Utf8.encode r).toList == [239, 191, 189]) = false := by
  rw [encode_list, ByteArray.toList_eq, beq_eq_false_iff_ne]
  exact enc_plain h
theorem same_fffd (r : Int) : ((Utf8.encode (foldK r)).toList == [239, 191, 189]) = ((Utf8.encode r).toList == [239, 191, 189]) := by
  rcases fold_plain r with h | ⟨h1, h2⟩
  · rw [h]
  · rw [enc_toList h1, enc_toList h2]

set_option maxHeartbeats 4000000 in
theorem walk (r : Int) (w : World) : Calls Try.prog 7 #[.int .i32 r] w fun e w' => e = .returned (.bool true) ∧ Below w.heap.size w w' := by
  obtain ⟨f, hf⟩ : ∃ f, foldK r = f := ⟨_, rfl⟩
  obtain ⟨x, hx⟩ : ∃ x, widthK r = x := ⟨_, rfl⟩
  have h3 := widthK_in r
  have h4 := fold_fold r
  have h5 := fold_blank r
  have h6 : ((Utf8.encode f).size : Int) ≤ 4 := by have := encode_size f; omega
  have h7 := same_fffd r
  have h8 := fold_width r
  have h1 := fun h => @blank_word r h
  have h2 := fun h => @end_blank r h
  rw [hx] at h3 h8 h2
  rw [hf] at h4 h5 h7 h8
  have hx0 : 0 ≤ x := by omega
  have hx2 : x ≤ 2 := by omega
  clear h3
  obtain ⟨g, hg⟩ : ∃ g, ((Utf8.encode r).toList == [239, 191, 189]) = g := ⟨_, rfl⟩
  rw [hg] at h7
  cases hE : endK r with
  | true =>
    obtain ⟨hb, rfl⟩ := h2 hE
    have hw := h1 hb
    rw [hb] at h5
    clear h1 h2
    go_enter Try.func7, Try.ntmps7
    go_wp2_with (first | (go_at_call 19; refine (kawake_any _).mono ?_; rintro e w1 ⟨rfl, hB1⟩) | (go_at_call 17; refine (fold_any _ _).mono ?_; rintro e w1 ⟨rfl, rfl⟩) | (go_at_call 9; refine (blank_any _ _).mono ?_; rintro e w1 ⟨rfl, rfl⟩) | (go_at_call 11; refine (word_any _ _).mono ?_; rintro e w1 ⟨rfl, rfl⟩) | (go_at_call 13; refine (kends_any _ _).mono ?_; rintro e w1 ⟨rfl, rfl⟩) | (go_at_call 15; refine (width_any _ _).mono ?_; rintro e w1 ⟨rfl, rfl⟩))
    all_goals first | (go_ret; exact ⟨rfl, hB1⟩) | (exfalso; simp_all; done)
  | false =>
    clear h2
    cases hb : blankK r with
    | true =>
      have hw := h1 hb
      rw [hb] at h5
      clear h1
      go_enter Try.func7, Try.ntmps7
      go_wp2_with (first | (go_at_call 19; refine (kawake_any _).mono ?_; rintro e w1 ⟨rfl, hB1⟩) | (go_at_call 17; refine (fold_any _ _).mono ?_; rintro e w1 ⟨rfl, rfl⟩) | (go_at_call 9; refine (blank_any _ _).mono ?_; rintro e w1 ⟨rfl, rfl⟩) | (go_at_call 11; refine (word_any _ _).mono ?_; rintro e w1 ⟨rfl, rfl⟩) | (go_at_call 13; refine (kends_any _ _).mono ?_; rintro e w1 ⟨rfl, rfl⟩) | (go_at_call 15; refine (width_any _ _).mono ?_; rintro e w1 ⟨rfl, rfl⟩))
      all_goals first | (go_ret; exact ⟨rfl, hB1⟩) | (exfalso; simp_all; done)
    | false =>
      rw [hb] at h5
      clear h1
      go_enter Try.func7, Try.ntmps7
      go_wp2_with (first | (go_at_call 19; refine (kawake_any _).mono ?_; rintro e w1 ⟨rfl, hB1⟩) | (go_at_call 17; refine (fold_any _ _).mono ?_; rintro e w1 ⟨rfl, rfl⟩) | (go_at_call 9; refine (blank_any _ _).mono ?_; rintro e w1 ⟨rfl, rfl⟩) | (go_at_call 11; refine (word_any _ _).mono ?_; rintro e w1 ⟨rfl, rfl⟩) | (go_at_call 13; refine (kends_any _ _).mono ?_; rintro e w1 ⟨rfl, rfl⟩) | (go_at_call 15; refine (width_any _ _).mono ?_; rintro e w1 ⟨rfl, rfl⟩))
      all_goals first | (go_ret; exact ⟨rfl, hB1⟩) | (exfalso; simp_all; done)
end Go.Proofs.Ytobemmfgpjgiaaa.kindsParts
