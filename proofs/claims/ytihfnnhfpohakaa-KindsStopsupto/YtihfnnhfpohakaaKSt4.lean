/- The document's Next and Back. -/
import Derived.Test.YtihfnnhfpohakaaKSt3
namespace Go.Proofs.Ytihfnnhfpohakaa
open Go.RowKit Go.Shelf
set_option linter.unusedVariables false

theorem rowK_of {W : World} {base M : Nat} {v : Value} {Rl : List Nat} (h : W.ownsRow base 3 1 v M (Rl.map I64k)) (hM : 0 < M) : ∃ g c, v = .slice (some ⟨g, 0, none⟩) M c ∧ ∀ (i x : Nat), Rl[i]? = some x → W.cell? ⟨g, i, none⟩ = some (.int .i64 (x : Int)) := by
  rcases h.2 with ⟨_, h0⟩ | ⟨g, cap, cur, hv, _, hg, hnc, _, hs, hc⟩
  · omega
  · refine ⟨g, cap, hv, fun i x hx => ?_⟩
    have h1 : (Rl.map I64k)[i]? = some (I64k x) := by rw [List.getElem?_map, hx]; rfl
    rw [← hc, List.getElem?_take] at h1
    split at h1
    · unfold World.cell?
      simp only [hg]
      simpa [I64k] using h1
    · cases h1
theorem stopN_is {Rl A B : List Nat} {p i x : Nat} (hAB : Rl = A ++ B) (hA : ∀ x ∈ A, x ≤ p) (hB : ∀ x, B.head? = some x → p < x) (hx : Rl[i]? = some x) (hp : p < x) (hj : ∀ j, j < i → ∀ y, Rl[j]? = some y → y ≤ p) : B.head? = some x := by
  subst hAB
  rcases Nat.lt_trichotomy i A.length with h | h | h
  · rw [List.getElem?_append_left h] at hx
    have := hA x (List.mem_of_getElem? hx)
    omega
  · rw [List.getElem?_append_right (by omega), show i - A.length = 0 by omega] at hx
    rw [List.head?_eq_getElem?]
    exact hx
  · have hi := (List.getElem?_eq_some_iff.1 hx).1
    obtain ⟨y, hy⟩ : ∃ y, (A ++ B)[A.length]? = some y := ⟨_, List.getElem?_eq_getElem (by omega)⟩
    have h1 := hj _ h y hy
    rw [List.getElem?_append_right (Nat.le_refl _), Nat.sub_self, ← List.head?_eq_getElem?] at hy
    have := hB y hy
    omega
theorem stopN_none {Rl A B : List Nat} {p : Nat} (hAB : Rl = A ++ B) (hB : ∀ x, B.head? = some x → p < x) (hj : ∀ j, j < Rl.length → ∀ y, Rl[j]? = some y → y ≤ p) : B.head? = none := by
  subst hAB
  cases h : B.head? with
  | none => rfl
  | some y =>
    have hy : (A ++ B)[A.length]? = some y := by rw [List.getElem?_append_right (Nat.le_refl _), Nat.sub_self, ← List.head?_eq_getElem?]; exact h
    have h1 := hj _ (List.getElem?_eq_some_iff.1 hy).1 y hy
    have := hB y h
    omega
theorem stopL_is {Rl A B : List Nat} {p i x : Nat} (hAB : Rl = A ++ B) (hA : ∀ x ∈ A, x < p) (hB : ∀ x ∈ B, p ≤ x) (hx : Rl[i]? = some x) (hp : x < p) (hj : ∀ j, i < j → ∀ y, Rl[j]? = some y → p ≤ y) : A.getLast? = some x := by
  subst hAB
  by_cases h : i < A.length
  · by_cases h2 : i + 1 = A.length
    · rw [List.getElem?_append_left h] at hx
      rw [List.getLast?_eq_getElem?, show A.length - 1 = i by omega]
      exact hx
    · obtain ⟨y, hy⟩ : ∃ y, A[i + 1]? = some y := ⟨_, List.getElem?_eq_getElem (by omega)⟩
      have h3 := hA y (List.mem_of_getElem? hy)
      have := hj (i + 1) (by omega) y (by rw [List.getElem?_append_left (by omega)]; exact hy)
      omega
  · rw [List.getElem?_append_right (by omega)] at hx
    have := hB x (List.mem_of_getElem? hx)
    omega
theorem stopL_none {Rl A B : List Nat} {p : Nat} (hAB : Rl = A ++ B) (hA : ∀ x ∈ A, x < p) (hj : ∀ (j y : Nat), Rl[j]? = some y → p ≤ y) : A.getLast? = none := by
  subst hAB
  cases A with
  | nil => rfl
  | cons a t =>
    have h1 := hA a List.mem_cons_self
    have := hj 0 a rfl
    omega

set_option maxHeartbeats 1000000 in
theorem rnext_any (s : ByteArray) (n : Int) (w : World) (hs : s.size ≤ 1048576) :
    Calls Try.prog 6 #[.string s, .int .i64 n] w fun e w' => e = .returned (.int .i64 (nextV (bl s) n : Nat)) ∧ Below w.heap.size w w' := by
  have ki := fun w => rinto_any s n w hs
  have kst := fun w => rstops_any s w hs
  have hle := into_le (bl s) n
  rw [bl_len] at hle
  obtain ⟨A, B, hAB, hA, hBh, hN⟩ := next_cut (into_Bd (bl s) n)
  have hR : nextV (bl s) n = (B.head?).getD s.size := by unfold nextV; rw [hN, bl_len]
  rw [hR]
  rw [bl_len] at hAB
  generalize intoV (bl s) n = p at *
  have hM0 : (Sp (bl s)).length + 1 = (Sp (bl s) ++ [s.size]).length := by simp
  have hMl : (Sp (bl s)).length ≤ s.size := by
    have h1 := stp_len (Cs 0 (bl s)) 7
    have h2 := Cs_len_le (bl s)
    rw [bl_len] at h2
    unfold Sp
    omega
  generalize Sp (bl s) ++ [s.size] = Rl at *
  generalize hm : (Sp (bl s)).length = m0 at *
  obtain ⟨M, hMM⟩ : ∃ M, M = m0 + 1 := ⟨_, rfl⟩
  rw [← hMM] at hM0
  simp only [← hMM] at kst
  have hM : 0 < M := by omega
  have hMb : M ≤ 1048577 := by omega
  have KI := hide ki
  have KST := hide kst
  have H := hide (And.intro hAB (And.intro hA hBh))
  have HM0 := hide hM0
  clear ki kst hAB hA hBh hN hR hM0 hm hMM
  go_enter Try.func6, Try.ntmps6
  go_wp2_with (first | (go_at_call 15; refine (KI.out _).mono ?_; rintro e w1 ⟨rfl, hB1⟩) | (go_at_call 16; refine (KST.out _).mono ?_; rintro e w2 ⟨v, rfl, ⟨base, hO⟩, hB2⟩; obtain ⟨g, c, rfl, hcell⟩ := rowK_of hO hM; replace hcell := hide hcell; clear hO))
  go_loopw [6] (fun q wr => ∃ i : Nat, q = .int .i64 (i : Int) ∧ i ≤ M ∧ Below w2.heap.size w2 wr ∧ ∀ (j : Nat), j < i → ∀ y, Rl[j]? = some y → y ≤ p) (fun q _ => M - (intOf q).toNat)
  case atStart => exact ⟨0, rfl, by omega, Below.refl _ _, fun j hj => by omega⟩
  case round =>
    obtain ⟨i, rfl, hi, hBr, hinv⟩ := hrel
    by_cases hlt : i < M
    · have hltI : (i : Int) < (M : Int) := by omega
      obtain ⟨x, hx⟩ : ∃ x, Rl[i]? = some x := ⟨_, List.getElem?_eq_getElem (by have := HM0.out; omega)⟩
      have c0 := (hBr.cell (p := ⟨g, i, none⟩) (World.block_lt_of_cell? _ _ (hcell.out i x hx))).trans (hcell.out i x hx)
      by_cases hp : p < x
      · have hpI : (p : Int) < (x : Int) := by omega
        have HE := hide (stopN_is H.out.1 H.out.2.1 H.out.2.2 hx hp hinv)
        clear hinv hx
        go_wp2
        go_ret
        exact ⟨ret_int (by rw [HE.out]; rfl), bseq (bseq hB1 hB2) hBr⟩
      · have hpI : (x : Int) ≤ (p : Int) := by omega
        have hinv' : ∀ j, j < i + 1 → ∀ y, Rl[j]? = some y → y ≤ p := fun j hj y hy => by
          by_cases e : j = i
          · subst e; rw [hx] at hy; cases hy; omega
          · exact hinv j (by omega) y hy
        have HI := hide hinv'
        clear hinv hinv' hx hp
        go_wp2
        go_roundw
        case rel => exact ⟨i + 1, by go_num, by omega, hBr, HI.out⟩
        case measure => simp [intOf]; omega
    · have hltI : (M : Int) ≤ (i : Int) := by omega
      have HE := hide (stopN_none H.out.1 H.out.2.2 (fun j hj => hinv j (by have := HM0.out; omega)))
      clear hinv
      go_wp2
      go_ret
      exact ⟨ret_int (by rw [HE.out]; rfl), bseq (bseq hB1 hB2) hBr⟩

set_option maxHeartbeats 1000000 in
theorem rback_any (s : ByteArray) (n : Int) (w : World) (hs : s.size ≤ 1048576) :
    Calls Try.prog 8 #[.string s, .int .i64 n] w fun e w' => e = .returned (.int .i64 (backV (bl s) n : Nat)) ∧ Below w.heap.size w w' := by
  have ki := fun w => rinto_any s n w hs
  have kst := fun w => rstops_any s w hs
  have hle := into_le (bl s) n
  rw [bl_len] at hle
  obtain ⟨A, B, hAB, hA, hBh, hN⟩ := back_cut (into_Bd (bl s) n)
  have hR : backV (bl s) n = (A.getLast?).getD 0 := by unfold backV; rw [hN]
  rw [hR]
  rw [bl_len] at hAB
  generalize intoV (bl s) n = p at *
  have hM0 : (Sp (bl s)).length + 1 = (Sp (bl s) ++ [s.size]).length := by simp
  have hMl : (Sp (bl s)).length ≤ s.size := by
    have h1 := stp_len (Cs 0 (bl s)) 7
    have h2 := Cs_len_le (bl s)
    rw [bl_len] at h2
    unfold Sp
    omega
  generalize Sp (bl s) ++ [s.size] = Rl at *
  generalize hm : (Sp (bl s)).length = m0 at *
  obtain ⟨M, hMM⟩ : ∃ M, M = m0 + 1 := ⟨_, rfl⟩
  rw [← hMM] at hM0
  simp only [← hMM] at kst
  have hM : 0 < M := by omega
  have hMb : M ≤ 1048577 := by omega
  have hwM : IntKind.i64.wrap ((M : Int) - 1) = (m0 : Int) := by rw [IntKind.wrap_i64]; omega
  have KI := hide ki
  have KST := hide kst
  have H := hide (And.intro hAB (And.intro hA hBh))
  have HM0 := hide hM0
  have HMM := hide hMM
  clear ki kst hAB hA hBh hN hR hM0 hm hMM
  go_enter Try.func8, Try.ntmps8
  go_wp2_with (first | (go_at_call 15; refine (KI.out _).mono ?_; rintro e w1 ⟨rfl, hB1⟩) | (go_at_call 16; refine (KST.out _).mono ?_; rintro e w2 ⟨v, rfl, ⟨base, hO⟩, hB2⟩; obtain ⟨g, c, rfl, hcell⟩ := rowK_of hO hM; replace hcell := hide hcell; clear hO))
  go_loopw [6] (fun q wr => Below w2.heap.size w2 wr ∧ ((∃ i : Nat, q = .int .i64 (i : Int) ∧ i < M ∧ ∀ j, i < j → ∀ y, Rl[j]? = some y → p ≤ y) ∨ (q = .int .i64 (-1) ∧ ∀ (j y : Nat), Rl[j]? = some y → p ≤ y))) (fun q _ => (intOf q + 1).toNat)
  case atStart => exact ⟨Below.refl _ _, .inl ⟨m0, rfl, by have := HMM.out; omega, fun j hj y hy => by have := (List.getElem?_eq_some_iff.1 hy).1; have := HM0.out; have := HMM.out; omega⟩⟩
  case round =>
    obtain ⟨hBr, ⟨i, rfl, hi, hinv⟩ | ⟨rfl, hinv⟩⟩ := hrel
    · have hltI : (i : Int) < (M : Int) := by omega
      have hge : (0 : Int) ≤ (i : Int) := by omega
      obtain ⟨x, hx⟩ : ∃ x, Rl[i]? = some x := ⟨_, List.getElem?_eq_getElem (by have := HM0.out; omega)⟩
      have c0 := (hBr.cell (p := ⟨g, i, none⟩) (World.block_lt_of_cell? _ _ (hcell.out i x hx))).trans (hcell.out i x hx)
      by_cases hp : x < p
      · have hpI : (x : Int) < (p : Int) := by omega
        have HE := hide (stopL_is H.out.1 H.out.2.1 H.out.2.2 hx hp hinv)
        clear hinv hx
        go_wp2
        go_ret
        exact ⟨ret_int (by rw [HE.out]; rfl), bseq (bseq hB1 hB2) hBr⟩
      · have hpI : (p : Int) ≤ (x : Int) := by omega
        have hinv' : ∀ j, i ≤ j → ∀ y, Rl[j]? = some y → p ≤ y := fun j hj y hy => by
          by_cases e : j = i
          · subst e; rw [hx] at hy; cases hy; omega
          · exact hinv j (by omega) y hy
        have hwi : IntKind.i64.wrap ((i : Int) - 1) = (i : Int) - 1 := by rw [IntKind.wrap_i64]; omega
        have HI := hide hinv'
        clear hinv hinv' hx hp
        go_wp2
        go_roundw
        case rel =>
          refine ⟨hBr, ?_⟩
          by_cases h0 : i = 0
          · exact .inr ⟨by rw [h0]; rfl, fun j y hy => HI.out j (by omega) y hy⟩
          · exact .inl ⟨i - 1, by congr 1; omega, by omega, fun j hj y hy => HI.out j (by omega) y hy⟩
        case measure => simp [intOf]
    · have HE := hide (stopL_none H.out.1 H.out.2.1 hinv)
      clear hinv
      go_wp2
      go_ret
      exact ⟨ret_int (by simp [HE.out]), bseq (bseq hB1 hB2) hBr⟩
end Go.Proofs.Ytihfnnhfpohakaa
