/- The road of BitsSums: for all rows of bytes, together of a bounded number, and every sum it returns true and writes nothing that was there. -/
import Derived.Test.YtjkglimbmfgllaaSumsH
import Derived.Test.YtjkglimbmfgllaaWorks
import Derived.RegionTactic
namespace Go.Proofs.Ytjkglimbmfgllaa.bitsSums
open Go.RowKit Go.Proofs.Ytjkglimbmfgllaa
set_option linter.unusedVariables false

def addAt (i k x : Nat) : Nat := (x + (i + k + 1) % 256) % 256
/-- Row number i, written over. -/
def addB (i : Nat) (r : List Nat) : List Nat := r.mapIdx (addAt i)
theorem addB_length (i : Nat) (r : List Nat) : (addB i r).length = r.length := by simp [addB]
theorem addB_get {i k x : Nat} {r : List Nat} (h : r[k]? = some x) : (addB i r)[k]? = some (addAt i k x) := by simp [addB, h]
theorem addB_lt (i : Nat) (r : List Nat) : ∀ x ∈ addB i r, x < 256 := by
  intro x hx
  obtain ⟨k, hk, rfl⟩ := List.mem_mapIdx.1 hx
  exact Nat.mod_lt _ (by omega)
/-- All rows, written over. -/
def addR (rs : List (List Nat)) : List (List Nat) := rs.mapIdx addB
theorem addR_length (rs : List (List Nat)) : (addR rs).length = rs.length := by simp [addR]
theorem addR_get {rs : List (List Nat)} {i : Nat} {r' : List Nat} (h : (addR rs)[i]? = some r') : ∃ r, rs[i]? = some r ∧ r' = addB i r := by
  simp [addR] at h
  obtain ⟨r, h1, h2⟩ := h
  exact ⟨r, h1, h2.symm⟩
theorem addR_flat (rs : List (List Nat)) : (addR rs).flatten.length = rs.flatten.length := by
  rw [List.length_flatten, List.length_flatten]
  congr 1
  refine List.ext_getElem? fun i => ?_
  simp only [addR, List.getElem?_map, List.getElem?_mapIdx]
  cases rs[i]? with
  | none => rfl
  | some r => simp [addB_length]
theorem addR_lt (rs : List (List Nat)) : ∀ r ∈ addR rs, ∀ x ∈ r, x < 256 := by
  intro r hr
  obtain ⟨i, hi, rfl⟩ := List.mem_mapIdx.1 hr
  exact addB_lt i _
def addK (rs : List (List Nat)) (j : Nat) : List Nat := addB j (rs.getD j []) ++ marks (rs.getD j []).length
theorem addK_in {rs : List (List Nat)} {j : Nat} {r : List Nat} (h : rs[j]? = some r) : addK rs j = addB j r ++ marks r.length := by
  simp only [addK, List.getD_eq_getElem?_getD, h, Option.getD_some]

theorem flat_lt {rs : List (List Nat)} (h : ∀ r ∈ rs, ∀ x ∈ r, x < 256) : ∀ x ∈ rs.flatten, x < 256 := by
  intro x hx
  obtain ⟨r, hr, hxr⟩ := List.mem_flatten.1 hx
  exact h r hr x hxr

/-- The list as rows. -/
theorem slr_sp {W : World} {o m n : Nat} {G : Nat → Nat} {K : Nat → List Nat} {rs rs' : List (List Nat)} (hO : SpO W o m m G rs) (hG : Owns W n G K) (hm : n ≤ m) (hn : rs'.length = n)
    (h : ∀ (j : Nat) (r : List Nat), rs'[j]? = some r → r.length = spL rs j ∧ (∃ sp, K j = r ++ sp) ∧ (∀ x ∈ r, x < 256) ∧ r.length ≤ maxLen) : SlR W (some ⟨o, 0, none⟩) rs' := by
  refine .inr ⟨o, 0, rfl, hO.lt, fun j r hr => ?_⟩
  have hj : j < n := by rw [← hn]; exact (List.getElem?_eq_some_iff.1 hr).1
  obtain ⟨h1, ⟨sp, h2⟩, h3, h4⟩ := h j r hr
  have hc := hO.cell (show j < m by omega)
  have hw := hG j hj
  rw [h2] at hw
  rw [← h1] at hc
  exact ⟨_, _, by rw [Nat.zero_add]; exact hc, hw.head h3, h4⟩

theorem mixed_head (A r m : List Nat) (h : A.length = r.length) : mixed (A ++ m) (r ++ m) r.length = A ++ m := by
  unfold mixed
  rw [List.drop_left, ← h, List.take_left]

set_option maxHeartbeats 4000000 in
theorem walk (a0 : Option Addr) (cap0 : Nat) (rs : List (List Nat)) (s : Nat) (w : World) (hg : SlR w a0 rs) (hn : rs.length ≤ 1048576) (hf : rs.flatten.length ≤ 1048576) (hs : s < 4294967296) :
    Calls Try.prog 5 #[.slice a0 rs.length cap0, .int .u32 s] w fun e w' => e = .returned (.bool true) ∧ Below w.heap.size w w' := by
  have hr : ∀ r ∈ rs, r.length ≤ 1048576 := by
    intro r hr
    obtain ⟨i, hi⟩ := List.getElem?_of_mem hr
    have := flat_at hi
    omega
  have hr47 : ∀ r ∈ rs, r.length ≤ 140737488355328 := fun r h => by have := hr r h; omega
  have hxr := hg.lt
  have HXR := hide hxr
  have HR := hide hr
  have HR47 := hide hr47
  have HGG := hide hg
  have HF2 : Hid ((addR rs).flatten.length ≤ 1048576) := hide (by rw [addR_flat]; exact hf)
  clear hr hr47 hxr hg
  go_enter Try.func5, Try.ntmps5
  go_wp2_with (go_at_call 21; refine (spareRows_any a0 cap0 rs w HGG.out (by omega) HR47.out).mono ?_; rintro e w0 ⟨rfl, G, hO0, hG0, hB0⟩)
  refine (join_any a0 cap0 rs w0 (HGG.out.below hB0) (by omega) (by omega)).mono ?_
  rintro e w1 ⟨v1, rfl, hj1, hB1⟩
  obtain ⟨aj, cj, rfl, hsj⟩ := sl_of_owns hj1 (flat_lt HXR.out)
  have hO1 := hO0.below hB1 hO0.lt
  have hG1 := hG0.below hB1
  have hB1' : Below w.heap.size w w1 := bseq hB0 hB1
  have hk0 : ∀ (j : Nat) (r : List Nat), rs[j]? = some r → r.length = spL rs j ∧ (∃ sp, spK rs j = r ++ sp) ∧ (∀ x ∈ r, x < 256) ∧ r.length ≤ maxLen := fun j r h =>
    ⟨(spL_in h).symm, ⟨_, spK_in h⟩, HXR.out r (List.mem_of_getElem? h), by have := HR.out r (List.mem_of_getElem? h); unfold maxLen; omega⟩
  have hS1 : SlR w1 (some ⟨w.heap.size, 0, none⟩) rs := slr_sp hO1 (n := rs.length) (fun j hj => hG1.1 j (by omega)) (by omega) rfl hk0
  have CS := hide (sum_any (some ⟨w.heap.size, 0, none⟩) (rs.length + 3) rs w1 hS1 (by unfold maxLen; omega))
  have CR : Hid (Calls Try.prog 24 #[.slice aj rs.flatten.length cj] w1 fun e w' => e = .returned (.int .u32 (sumV rs)) ∧ w' = w1) := refSum_any aj cj rs.flatten w1 hsj (by unfold maxLen; omega)
  have HFX := hide (flat_lt HXR.out)
  have HO1 := hide hO1
  have HG1 := hide hG1
  have HB1 := hide hB1'
  have HSJ := hide hsj
  clear hk0 hS1 hO0 hG0 hB0 hO1 hG1 hB1 hB1' hsj hj1
  generalize sumV rs = S at CS CR
  generalize rs.flatten = fl at *
  have CM : Hid (∀ (g c : Nat) (sp : List Nat) (W : World), OwnB W g (fl ++ sp) → Calls Try.prog 25 #[.int .u32 s, .slice (some ⟨g, 0, none⟩) fl.length c] W fun e w' => e = .returned (.int .u32 (moreV s fl)) ∧ w' = W) := fun g c sp W h => more_some s _ c fl W hs (h.head HFX.out) (by unfold maxLen; omega)
  have CN : Hid (∀ (W : World), Below w1.heap.size w1 W → Calls Try.prog 26 #[.int .u32 s, .slice aj fl.length cj] W fun e w' => e = .returned (.int .u32 (moreV s fl)) ∧ w' = W) := fun W h => refMore_any s aj cj fl W hs (HSJ.out.below h) (by unfold maxLen; omega)
  have CK : Hid (∀ (W : World), Below w1.heap.size w1 W → Calls Try.prog 27 #[.slice (some ⟨w.heap.size, 0, none⟩) rs.length (rs.length + 3), .slice a0 rs.length cap0] W fun e w' => e = .returned (.bool true) ∧ ∃ n, w' = W.drewN n) := fun W h =>
    keptRows_true w.heap.size G a0 cap0 rs W (HO1.out.below h HO1.out.lt) (HG1.out.below h) (HGG.out.below (bseq HB1.out h)) (by omega) HR47.out
  generalize moreV s fl = M at CM CN
  have hne1 : ((S : Int) != (S : Int)) = false := by simp
  have hne2 : ((M : Int) != (M : Int)) = false := by simp
  go_wp2_with (first
    | (go_at_call 23; refine (unhide CS).mono ?_; rintro e w' ⟨rfl, hw'⟩; replace hw' := hw'.symm; subst hw')
    | (go_at_call 24; refine (unhide CR).mono ?_; rintro e w' ⟨rfl, hw'⟩; replace hw' := hw'.symm; subst hw')
    | (go_at_call 9; refine (spare_any aj cj fl w1 HSJ.out (by omega)).mono ?_; rintro e w2 ⟨rfl, hO2, hB2⟩)
    | (go_at_call 25; refine (unhide CM _ _ _ w2 hO2).mono ?_; rintro e w' ⟨rfl, hw'⟩; replace hw' := hw'.symm; subst hw')
    | (go_at_call 26; refine (unhide CN w2 hB2).mono ?_; rintro e w' ⟨rfl, hw'⟩; replace hw' := hw'.symm; subst hw')
    | (go_at_call 27; refine (unhide CK w2 hB2).mono ?_; rintro e w3 ⟨rfl, n3, hw3⟩; have HW3 := hide hw3; clear hw3))
  have hB3 : Below w1.heap.size w1 w3 := hB2.trans (by rw [HW3.out]; exact (below_drewN (Below.refl _ _) n3))
  have HO3 := hide (HO1.out.below hB3 HO1.out.lt)
  have hg3 := HG1.out.below hB3
  have HG3 : Hid (Owns w3 rs.length G (spK rs)) := fun j hj => hg3.1 j (by omega)
  have HGO : Hid (∀ j, j < rs.length → w.heap.size < G j) := fun j hj => hg3.2.1 j (by omega)
  have HIN : Hid (∀ i, i < rs.length → ∀ j, j < rs.length → j ≠ i → G j ≠ G i) := fun i hi j hj hne e => by
    rcases Nat.lt_or_gt_of_ne hne with h | h
    · have := hg3.2.2 j i h (by omega); omega
    · have := hg3.2.2 i j h (by omega); omega
  have HB3 : Hid (Below w.heap.size w w3) := bseq HB1.out hB3
  clear hg3 hB3 HW3 hO2 hB2 CS CR CM CN CK HO1 HG1 HB1 HSJ HFX hne1 hne2 hf HGG HR47
  go_loopw [7] (fun i wr => ∃ k : Nat, k ≤ rs.length ∧ i = .int .i64 k ∧ Owns wr rs.length G (fun j => if j < k then addK rs j else spK rs j) ∧ SpO wr w.heap.size (rs.length + 3) (rs.length + 3) G rs ∧ Below w.heap.size w wr) (fun i _ => rs.length - (intOf i).toNat)
  case atStart => exact ⟨0, by omega, rfl, HG3.out.congr (fun j _ => by simp), HO3.out, HB3.out⟩
  case round =>
    clear HO3 HG3 HB3
    obtain ⟨i, hin, rfl, hO1, hS1, hB1⟩ := hrel
    have HO1 := hide hO1
    have HS1 := hide hS1
    have HB1 := hide hB1
    clear hO1 hS1 hB1
    by_cases hlt : i < rs.length
    · have hii : (i : Int) < (rs.length : Int) := by omega
      obtain ⟨r, hri⟩ : ∃ r, rs[i]? = some r := ⟨_, List.getElem?_eq_getElem hlt⟩
      have hrl := HR.out r (List.mem_of_getElem? hri)
      have HRX := hide (HXR.out r (List.mem_of_getElem? hri))
      have HRI := hide hri
      have HGi := hide (HGO.out i hlt)
      have HIi := hide (HIN.out i hlt)
      clear hri
      go_wp2
      go_loopw [8] (fun k wr => ∃ q : Nat, q ≤ r.length ∧ k = .int .i64 q ∧ Owns wr rs.length G (fun j => if j = i then mixed (addB i r ++ marks r.length) (r ++ marks r.length) q else if j < i then addK rs j else spK rs j) ∧ SpO wr w.heap.size (rs.length + 3) (rs.length + 3) G rs ∧ Below w.heap.size w wr) (fun k _ => r.length - (intOf k).toNat)
      case atStart =>
        refine ⟨0, by omega, rfl, HO1.out.congr (fun j _ => ?_), HS1.out, HB1.out⟩
        by_cases e : j = i
        · subst e; simp [mixed_zero, spK_in HRI.out]
        · simp [e]
      case round =>
        clear HO1 HS1 HB1
        obtain ⟨q, hq, rfl, hO2, hS2, hB2⟩ := hrel
        have hc : wr.cell? ⟨w.heap.size, i, none⟩ = some (.slice (some ⟨G i, 0, none⟩) r.length (r.length + 80)) := by
          have h := hS2.cell (show i < rs.length + 3 by omega)
          rw [spL_in HRI.out, spC_in HRI.out] at h
          exact h
        have HO2 := hide hO2
        have HS2 := hide hS2
        have HB2 := hide hB2
        clear hO2 hS2 hB2
        by_cases hql : q < r.length
        · have hqi : (q : Int) < (r.length : Int) := by omega
          have ho : OwnB wr (G i) (mixed (addB i r ++ marks r.length) (r ++ marks r.length) q) := by have h := HO2.out i hlt; simpa using h
          obtain ⟨x, hx⟩ : ∃ x, r[q]? = some x := ⟨_, List.getElem?_eq_getElem hql⟩
          have hxa : (r ++ marks r.length)[q]? = some x := by rw [List.getElem?_append_left hql]; exact hx
          have hcx := ho.cell q x (by rw [mixed_get _ _ _ (by simp [addB_length]; omega)]; exact hxa)
          have hx8 : x < 256 := HRX.out x (List.mem_of_getElem? hx)
          have hf := ho.frozen q
          have hs := OwnB.set ho q (addAt i q x)
          rw [mixed_set _ _ q (addAt i q x) (by rw [List.getElem?_append_left (by rw [addB_length]; exact hql)]; exact addB_get hx) (by simp; omega)] at hs
          have HO3 := hide hs
          have hval : ((addAt i q x : Nat) : Int) = ((x : Int) + ((i : Int) + (q : Int) + 1)) % 256 := by unfold addAt; omega
          have HV := hide hval
          clear ho hx hxa hs hval
          generalize hGe : G i = gi at *
          go_wp2
          go_region
          go_wp2
          go_roundw
          case rel =>
            subst hGe
            refine ⟨q + 1, by omega, by go_num, ?_, ?_, ?_⟩
            · have h := HO3.out
              rw [HV.out] at h
              exact (Owns.step HO2.out hlt HIi.out h).congr (fun j _ => by by_cases e : j = i <;> simp [e])
            · exact HS2.out.of_block (block_other (Nat.ne_of_lt HGi.out))
            · exact (HB2.out.setCell (Nat.le_of_lt HGi.out) _).drew
          case measure => simp [intOf]; omega
        · have hqi : (r.length : Int) ≤ (q : Int) := by omega
          have hqe : q = r.length := by omega
          have HQ := hide hqe
          clear hqe
          go_wp2
          go_roundw
          case rel =>
            refine ⟨i + 1, by omega, by go_num, HO2.out.congr (fun j _ => ?_), HS2.out, HB2.out⟩
            by_cases e : j = i
            · subst e
              rw [if_pos rfl, if_pos (by omega), HQ.out, mixed_head _ _ _ (addB_length _ _), addK_in HRI.out]
            · rw [if_neg e]
              by_cases e2 : j < i
              · rw [if_pos e2, if_pos (by omega)]
              · rw [if_neg e2, if_neg (by omega)]
          case measure => simp [intOf]; omega
    · have hii : (rs.length : Int) ≤ (i : Int) := by omega
      have hie : i = rs.length := by omega
      have hO2 : Owns wr rs.length G (addK rs) := HO1.out.congr (fun j hj => by rw [if_pos (by omega)])
      have hS2 : SlR wr (some ⟨w.heap.size, 0, none⟩) (addR rs) := slr_sp HS1.out hO2 (by omega) (addR_length rs) (fun j r' h => by
        obtain ⟨r, h1, rfl⟩ := addR_get h
        have := HR.out r (List.mem_of_getElem? h1)
        exact ⟨by rw [addB_length, spL_in h1], ⟨_, addK_in h1⟩, addB_lt j r, by rw [addB_length]; unfold maxLen; omega⟩)
      have hal := addR_length rs
      have HRA : Hid (∀ r ∈ addR rs, r.length ≤ 140737488355328) := fun r hr => by
        obtain ⟨j, hj⟩ := List.getElem?_of_mem hr
        have h1 := flat_at hj
        have h2 := HF2.out
        omega
      have hf2 := HF2.out
      have HXA := hide (flat_lt (addR_lt rs))
      have HS2 := hide hS2
      clear hie hO2 HO1 HS1 HR HXR HGO HIN HF2 hS2
      generalize addR rs = zs at *
      generalize rs.length = n at *
      subst hal
      have CS := hide (sum_any (some ⟨w.heap.size, 0, none⟩) (zs.length + 3) zs wr HS2.out (by unfold maxLen; omega))
      have CC := hide (copyRows_any (some ⟨w.heap.size, 0, none⟩) (zs.length + 3) zs wr HS2.out (by omega) HRA.out)
      have CJ : Hid (∀ (a : Option Addr) (c : Nat) (W : World), SlR W a zs → Calls Try.prog 22 #[.slice a zs.length c] W fun e w' => ∃ aj cj, e = .returned (.slice aj zs.flatten.length cj) ∧ Sl w' aj zs.flatten ∧ Below W.heap.size W w') := fun a c W h => by
        refine (join_any a c zs W h (by omega) (by omega)).mono ?_
        rintro e w' ⟨v, rfl, hj, hB⟩
        obtain ⟨aj, cj, rfl, hsj⟩ := sl_of_owns hj HXA.out
        exact ⟨aj, cj, rfl, hsj, hB⟩
      have CR : Hid (∀ (a : Option Addr) (c : Nat) (W : World), Sl W a zs.flatten → Calls Try.prog 24 #[.slice a zs.flatten.length c] W fun e w' => e = .returned (.int .u32 (sumV zs)) ∧ w' = W) := fun a c W h => refSum_any a c zs.flatten W h (by unfold maxLen; omega)
      generalize sumV zs = S2 at *
      generalize zs.flatten = fa at *
      have heq : ((S2 : Int) == (S2 : Int)) = true := by simp
      go_wp2_with (first
        | (go_at_call 23; refine (unhide CS).mono ?_; rintro e w' ⟨rfl, hw'⟩; replace hw' := hw'.symm; subst hw')
        | (go_at_call 28; refine (unhide CC).mono ?_; rintro e w4 ⟨v4, cs4, rfl, ho4, ht4, hB4⟩; obtain ⟨a4, c4, rfl, hs4⟩ := slr_of_owns ho4 ht4)
        | (go_at_call 22; refine (unhide CJ _ _ w4 hs4).mono ?_; rintro e w5 ⟨a5, c5, rfl, hs5, hB5⟩)
        | (go_at_call 24; refine (unhide CR _ _ w5 hs5).mono ?_; rintro e w' ⟨rfl, hw'⟩; replace hw' := hw'.symm; subst hw')
        | (go_at_call 16; refine (works_any _).mono ?_; rintro e w6 ⟨rfl, hB6⟩))
      go_ret
      exact ⟨rfl, bseq (bseq (bseq HB1.out hB4) hB5) hB6⟩

end Go.Proofs.Ytjkglimbmfgllaa.bitsSums
