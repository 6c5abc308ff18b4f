/- The road of KindsAlike: alike is an equivalence; a text is alike to what it is folded; nothing is cut at a bar. -/
import Derived.Test.YtdjkbldbihpocaaKAlF
import Derived.Laws.Concat
namespace Go.Proofs.Ytdjkbldbihpocaa.kindsAlike
open Go.RowKit Go.Proofs.Ytdjkbldbihpocaa
set_option linter.unusedVariables false

theorem bl_app (a b : ByteArray) : bl (a ++ b) = bl a ++ bl b := by unfold bl; simp
theorem fdV_len (l : List UInt8) : (fdV l).length ≤ 4 * l.length := by
  refine byChars (P := fun l => (fdV l).length ≤ 4 * l.length) (Nat.le_refl _) (fun l hl ih => ?_) l
  rw [fdV_cons hl, List.length_append]
  have h1 := fd1_len l
  have h2 := cw_pos l
  have h3 := cw_len l hl
  rw [List.length_drop] at ih
  omega
set_option maxRecDepth 100000 in
set_option maxHeartbeats 4000000 in
theorem road (a b c : ByteArray) (w : World) (ha : a.size ≤ 140737488351232) (hb : b.size ≤ 140737488351232) (hc : c.size ≤ 140737488351232) :
    Calls Try.prog 3 #[.string a, .string b, .string c] w fun e w' => e = .returned (.bool true) ∧ Below w.heap.size w w' := by
  obtain ⟨F, hF⟩ : ∃ F : ByteArray, F = ⟨(fdV (bl a)).toArray⟩ := ⟨_, rfl⟩
  have hFb : bl F = fdV (bl a) := by rw [hF]; rfl
  have kfd := fun w' => folded_any a w' ha
  rw [← hF] at kfd
  have hFl := fdV_len (bl a)
  rw [← hFb, bl_len, bl_len] at hFl
  obtain ⟨X, hX⟩ : ∃ X : ByteArray, X = a ++ ⟨#[124]⟩ := ⟨_, rfl⟩
  obtain ⟨Y, hY⟩ : ∃ Y : ByteArray, Y = b ++ ⟨#[124]⟩ := ⟨_, rfl⟩
  obtain ⟨X2, hX2⟩ : ∃ X2 : ByteArray, X2 = X ++ c := ⟨_, rfl⟩
  obtain ⟨Y2, hY2⟩ : ∃ Y2 : ByteArray, Y2 = Y ++ c := ⟨_, rfl⟩
  have eX : bl X2 = bl a ++ 124 :: bl c := by rw [hX2, bl_app, hX, bl_app, List.append_assoc]; rfl
  have eY : bl Y2 = bl b ++ 124 :: bl c := by rw [hY2, bl_app, hY, bl_app, List.append_assoc]; rfl
  have s1 : X.size = a.size + 1 := by rw [hX, ByteArray.size_append]; rfl
  have s2 : Y.size = b.size + 1 := by rw [hY, ByteArray.size_append]; rfl
  have s3 : X2.size = a.size + 1 + c.size := by rw [hX2, ByteArray.size_append, s1]
  have s4 : Y2.size = b.size + 1 + c.size := by rw [hY2, ByteArray.size_append, s2]
  have h124 : (⟨#[124]⟩ : ByteArray).size = 1 := rfl
  have d1 := fun w => run_string_add_sum (P := Try.prog) w a ⟨#[124]⟩ (by rw [h124]; omega)
  have d2 := fun w => run_string_add_sum (P := Try.prog) w b ⟨#[124]⟩ (by rw [h124]; omega)
  have d3 := fun w => run_string_add_sum (P := Try.prog) w X c (by omega)
  have d4 := fun w => run_string_add_sum (P := Try.prog) w Y c (by omega)
  rw [← hX] at d1
  rw [← hY] at d2
  rw [← hX2] at d3
  rw [← hY2] at d4
  have kal := fun x y w' (hx : x.size ≤ 9000000000000000000) (hy : y.size ≤ 9000000000000000000) => alike_any x y w' (by omega) (by omega)
  have za : a.size ≤ 9000000000000000000 := by omega
  have zb : b.size ≤ 9000000000000000000 := by omega
  have zc : c.size ≤ 9000000000000000000 := by omega
  have zF : F.size ≤ 9000000000000000000 := by omega
  have zX : X2.size ≤ 9000000000000000000 := by omega
  have zY : Y2.size ≤ 9000000000000000000 := by omega
  have hAA : alikeV (bl a) (bl a) = true := by unfold alikeV; simp
  have hAF : alikeV (bl a) (bl F) = true := by unfold alikeV; rw [hFb, Ks_fd]; simp
  have hFB : alikeV (bl F) (bl b) = alikeV (bl a) (bl b) := by unfold alikeV; rw [hFb, Ks_fd]
  have hBA : alikeV (bl b) (bl a) = alikeV (bl a) (bl b) := by unfold alikeV; exact decide_eq_decide.2 ⟨Eq.symm, Eq.symm⟩
  have hnn : ∀ β : Bool, (β != β) = false := fun β => by cases β <;> rfl
  have kca := fun w' => count_any a w' (by omega)
  have kcb := fun w' => count_any b w' (by omega)
  have KAL := hide kal
  have KFD := hide kfd
  by_cases hab : Ks (bl a) = Ks (bl b)
  · have hAB : alikeV (bl a) (bl b) = true := by unfold alikeV; exact decide_eq_true hab
    rw [hAB] at hFB hBA
    have hBC : alikeV (bl b) (bl c) = alikeV (bl a) (bl c) := by unfold alikeV; rw [hab]
    have hXY : alikeV (bl X2) (bl Y2) = true := by unfold alikeV; rw [eX, eY, Ks_bar, Ks_bar, hab]; simp
    have hcn : (Cs 0 (bl b)).length = (Cs 0 (bl a)).length := by rw [← Ks_length, ← Ks_length, hab]
    rw [hcn] at kcb
    have hnc : (((Cs 0 (bl a)).length : Int) != ((Cs 0 (bl a)).length : Int)) = false := by simp
    generalize (Cs 0 (bl a)).length = NC at *
    obtain ⟨β, hAC⟩ : ∃ β, alikeV (bl a) (bl c) = β := ⟨_, rfl⟩
    rw [hAC] at hBC
    have hβ := hnn β
    have hβ2 : (β == β) = true := by cases β <;> rfl
    have KCA := hide kca
    have KCB := hide kcb
    have M1 := hide trivial
    clear kal kfd kca kcb hX hY hX2 hY2 eX eY s1 s2 s3 s4 hF hFb hFl hcn hab h124 hnn
    go_enter Try.func3, Try.ntmps3
    go_wp2_with (first
      | (go_at_call 4; refine (kawake_any _).mono ?_; rintro e x1 ⟨rfl, hB⟩; have HB := hide hB; clear hB)
      | (go_at_call 6; refine (KFD.out _).mono ?_; rintro e x2 ⟨rfl, hB2⟩; replace HB := hide (bseq HB.out hB2); clear hB2)
      | (go_at_call 7; clear M1; refine (KCA.out _).mono ?_; rintro e x3 ⟨rfl, hB3⟩; replace HB := hide (bseq HB.out hB3); clear hB3)
      | (go_at_call 7; refine (KCB.out _).mono ?_; rintro e x3 ⟨rfl, hB3⟩; replace HB := hide (bseq HB.out hB3); clear hB3)
      | (go_at_call 5; refine (KAL.out _ _ _ (by first | exact za | exact zb | exact zc | exact zF | exact zX | exact zY) (by first | exact za | exact zb | exact zc | exact zF | exact zX | exact zY)).mono ?_; rintro e x4 ⟨rfl, hB4⟩; replace HB := hide (bseq HB.out hB4); clear hB4))
    go_ret
    exact ⟨rfl, HB.out⟩
  · have hAB : alikeV (bl a) (bl b) = false := by unfold alikeV; exact decide_eq_false hab
    rw [hAB] at hFB hBA
    obtain ⟨β, hAC⟩ : ∃ β, alikeV (bl a) (bl c) = β := ⟨_, rfl⟩
    obtain ⟨γ, hBC⟩ : ∃ γ, alikeV (bl b) (bl c) = γ := ⟨_, rfl⟩
    clear kal kfd kca kcb hX hY hX2 hY2 eX eY s1 s2 s3 s4 hF hFb hFl hab h124 hnn
    go_enter Try.func3, Try.ntmps3
    go_wp2_with (first
      | (go_at_call 4; refine (kawake_any _).mono ?_; rintro e x1 ⟨rfl, hB⟩; have HB := hide hB; clear hB)
      | (go_at_call 6; refine (KFD.out _).mono ?_; rintro e x2 ⟨rfl, hB2⟩; replace HB := hide (bseq HB.out hB2); clear hB2)
      | (go_at_call 5; refine (KAL.out _ _ _ (by first | exact za | exact zb | exact zc | exact zF | exact zX | exact zY) (by first | exact za | exact zb | exact zc | exact zF | exact zX | exact zY)).mono ?_; rintro e x4 ⟨rfl, hB4⟩; replace HB := hide (bseq HB.out hB4); clear hB4))
    go_ret
    exact ⟨rfl, HB.out⟩
end Go.Proofs.Ytdjkbldbihpocaa.kindsAlike
