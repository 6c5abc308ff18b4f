/- What SpareRows makes of a list of lists of bytes: each row with marks behind it, in a block of its own, and three rows behind the last; that KeptRows finds it so; what the document's sum is. -/
import Derived.Test.YtjkglimbmfgllaaApartW
namespace Go.Proofs.Ytjkglimbmfgllaa
open Go.RowKit
set_option linter.unusedVariables false

/-- What block number j holds. -/
def spK (rs : List (List Nat)) (j : Nat) : List Nat := if j < rs.length then rs.getD j [] ++ marks (rs.getD j []).length else [j % 256, 119]
def spL (rs : List (List Nat)) (j : Nat) : Nat := if j < rs.length then (rs.getD j []).length else 2
def spC (rs : List (List Nat)) (j : Nat) : Nat := if j < rs.length then (rs.getD j []).length + 80 else 2
theorem spK_in {rs : List (List Nat)} {j : Nat} {r : List Nat} (h : rs[j]? = some r) : spK rs j = r ++ marks r.length := by
  have hj := (List.getElem?_eq_some_iff.1 h).1
  simp only [spK, if_pos hj, List.getD_eq_getElem?_getD, h, Option.getD_some]
theorem spL_in {rs : List (List Nat)} {j : Nat} {r : List Nat} (h : rs[j]? = some r) : spL rs j = r.length := by
  have hj := (List.getElem?_eq_some_iff.1 h).1
  simp only [spL, if_pos hj, List.getD_eq_getElem?_getD, h, Option.getD_some]
theorem spC_in {rs : List (List Nat)} {j : Nat} {r : List Nat} (h : rs[j]? = some r) : spC rs j = r.length + 80 := by
  have hj := (List.getElem?_eq_some_iff.1 h).1
  simp only [spC, if_pos hj, List.getD_eq_getElem?_getD, h, Option.getD_some]
theorem spK_out {rs : List (List Nat)} {j : Nat} (h : rs.length ≤ j) : spK rs j = [j % 256, 119] := by simp [spK, Nat.not_lt.2 h]
theorem spL_out {rs : List (List Nat)} {j : Nat} (h : rs.length ≤ j) : spL rs j = 2 := by simp [spL, Nat.not_lt.2 h]
theorem spC_out {rs : List (List Nat)} {j : Nat} (h : rs.length ≤ j) : spC rs j = 2 := by simp [spC, Nat.not_lt.2 h]

/-- The list's own block: the first k places lead to the blocks G j, the others are nil. -/
def SpO (W : World) (o m k : Nat) (G : Nat → Nat) (rs : List (List Nat)) : Prop :=
  ∃ cur : Array Value, W.heap[o]? = some (.cells cur 22 (0, 0)) ∧ cur.size = m ∧ (∀ j, j < k → cur[j]? = some (.slice (some ⟨G j, 0, none⟩) (spL rs j) (spC rs j))) ∧ (∀ j, k ≤ j → j < m → cur[j]? = some (.slice none 0 0))
/-- .. and the blocks. -/
def SpG (W : World) (o k : Nat) (G : Nat → Nat) (K : Nat → List Nat) : Prop :=
  Owns W k G K ∧ (∀ j, j < k → o < G j) ∧ (∀ i j, i < j → j < k → G i < G j)

theorem SpO.lt {W : World} {o m k : Nat} {G : Nat → Nat} {rs : List (List Nat)} (h : SpO W o m k G rs) : o < W.heap.size := by
  obtain ⟨cur, h1, _⟩ := h
  exact (Array.getElem?_eq_some_iff.1 h1).1
theorem SpO.of_block {W W' : World} {o m k : Nat} {G : Nat → Nat} {rs : List (List Nat)} (h : SpO W o m k G rs) (e : W'.heap[o]? = W.heap[o]?) : SpO W' o m k G rs := by
  obtain ⟨cur, h1, h2⟩ := h
  exact ⟨cur, e.trans h1, h2⟩
theorem SpO.below {W W' : World} {o m k B : Nat} {G : Nat → Nat} {rs : List (List Nat)} (h : SpO W o m k G rs) (hb : Below B W W') (ho : o < B) : SpO W' o m k G rs :=
  h.of_block (hb.block o ho)
theorem SpO.cell {W : World} {o m k j : Nat} {G : Nat → Nat} {rs : List (List Nat)} (h : SpO W o m k G rs) (hj : j < k) : W.cell? ⟨o, j, none⟩ = some (.slice (some ⟨G j, 0, none⟩) (spL rs j) (spC rs j)) := by
  obtain ⟨cur, h1, h2, h3, h4⟩ := h
  have := h3 j hj
  simp [World.cell?, h1, this]
theorem SpO.room {W : World} {o m k j : Nat} {G : Nat → Nat} {rs : List (List Nat)} (h : SpO W o m k G rs) (hj : k ≤ j) (hm : j < m) : W.cell? ⟨o, j, none⟩ = some (.slice none 0 0) := by
  obtain ⟨cur, h1, h2, h3, h4⟩ := h
  have := h4 j hj hm
  simp [World.cell?, h1, this]
theorem SpO.frozen {W : World} {o m k : Nat} {G : Nat → Nat} {rs : List (List Nat)} (h : SpO W o m k G rs) (j : Nat) : W.frozen? ⟨o, j, none⟩ = false := by
  obtain ⟨cur, h1, _⟩ := h
  simp [World.frozen?, h1]
theorem SpO.made (w : World) (m : Nat) (G : Nat → Nat) (rs : List (List Nat)) : SpO (w.alloc (.cells (madeCells #[.slice none 0 0] m) 22)) w.heap.size m 0 G rs := by
  refine ⟨_, heap_alloc_new _ _, by simp [size_madeCells], fun j hj => by omega, fun j _ hj => ?_⟩
  rw [Array.getElem?_eq_getElem (by simp [size_madeCells]; exact hj)]
  simp [madeCells, Nat.mod_one]
theorem SpO.push {W : World} {o m k g : Nat} {G : Nat → Nat} {rs : List (List Nat)} (h : SpO W o m k G rs) (hk : k < m) : SpO (W.setCell ⟨o, k, none⟩ (.slice (some ⟨g, 0, none⟩) (spL rs k) (spC rs k))) o m (k + 1) (fun j => if j = k then g else G j) rs := by
  obtain ⟨cur, h1, h2, h3, h4⟩ := h
  refine ⟨cur.set! k (.slice (some ⟨g, 0, none⟩) (spL rs k) (spC rs k)), ?_, by simp [h2], fun j hj => ?_, fun j hj hm => ?_⟩
  · simp only [World.setCell, Array.getElem?_modify, h1]
    simp
  · by_cases e : j = k
    · subst e
      simp [h2, hk]
    · have := h3 j (by omega)
      simp [e, Ne.symm e, this]
  · have := h4 j (by omega) hm
    have e : j ≠ k := by omega
    simp [Ne.symm e, this]

theorem SpG.below {W W' : World} {o k : Nat} {G : Nat → Nat} {K : Nat → List Nat} (h : SpG W o k G K) (hb : Below W.heap.size W W') : SpG W' o k G K :=
  ⟨fun j hj => (h.1 j hj).below hb (h.1 j hj).lt, h.2⟩
theorem SpG.store {W : World} {o k i : Nat} {G : Nat → Nat} {K : Nat → List Nat} {v : Value} (h : SpG W o k G K) : SpG (W.setCell ⟨o, i, none⟩ v) o k G K :=
  ⟨fun j hj => (h.1 j hj).other (Nat.ne_of_gt (h.2.1 j hj)), h.2⟩
theorem SpG.push {W W1 : World} {o k : Nat} {G : Nat → Nat} {K : Nat → List Nat} (h : SpG W o k G K) (hb : Below W.heap.size W W1) (ho : o < W.heap.size) (hn : OwnB W1 W.heap.size (K k)) : SpG W1 o (k + 1) (fun j => if j = k then W.heap.size else G j) K := by
  refine ⟨fun j hj => ?_, fun j hj => ?_, fun i j hi hj => ?_⟩
  · by_cases e : j = k
    · subst e; simpa using hn
    · simp only [if_neg e]
      exact (h.1 j (by omega)).below hb (h.1 j (by omega)).lt
  · by_cases e : j = k
    · simp only [if_pos e]; exact ho
    · simp only [if_neg e]; exact h.2.1 j (by omega)
  · have e1 : i ≠ k := by omega
    simp only [if_neg e1]
    by_cases e : j = k
    · simp only [if_pos e]; exact (h.1 i (by omega)).lt
    · simp only [if_neg e]; exact h.2.2 i j hi (by omega)

set_option maxHeartbeats 1000000 in
theorem spareRows_any (a : Option Addr) (cap : Nat) (rs : List (List Nat)) (w : World) (hg : SlR w a rs) (hn : rs.length ≤ 1000000000000) (hr : ∀ r ∈ rs, r.length ≤ 140737488355328) :
    Calls Try.prog 21 #[.slice a rs.length cap] w fun e w' => e = .returned (.slice (some ⟨w.heap.size, 0, none⟩) rs.length (rs.length + 3)) ∧ ∃ G, SpO w' w.heap.size (rs.length + 3) (rs.length + 3) G rs ∧ SpG w' w.heap.size (rs.length + 3) G (spK rs) ∧ Below w.heap.size w w' := by
  have hmk := run_make_row' (P := Try.prog) 25 22 (.slice none 0 0) 24 Try.underlying25 Try.info22 rfl .i64 .i64 (rs.length + 3) (by omega) (by omega)
  have ec : ((rs.length + 3 : Nat) : Int) = (rs.length : Int) + 3 := by omega
  rw [ec] at hmk
  clear ec
  have HO := hide (SpO.made w (rs.length + 3) (fun _ => 0) rs)
  have HB : Hid (Below w.heap.size w (w.alloc (.cells (madeCells #[.slice none 0 0] (rs.length + 3)) 22))) := (Below.refl _ _).alloc (Nat.le_refl _) _
  have HRL := hide hr
  clear hr
  go_enter Try.func21, Try.ntmps21
  go_wp2
  clear hmk
  go_loopw [4] (fun i wr => ∃ (k : Nat) (G : Nat → Nat), k ≤ rs.length + 3 ∧ i = .int .i64 k ∧ SpO wr w.heap.size (rs.length + 3) k G rs ∧ SpG wr w.heap.size k G (spK rs) ∧ Below w.heap.size w wr)
    (fun i _ => rs.length + 3 - (intOf i).toNat)
  case atStart => exact ⟨0, fun _ => 0, by omega, rfl, HO.out, ⟨fun j hj => by omega, fun j hj => by omega, fun i j _ hj => by omega⟩, HB.out⟩
  case round =>
    clear HO HB
    obtain ⟨k, G, hk, rfl, hO, hG, hB⟩ := hrel
    have HO := hide hO
    have HG := hide hG
    have HB := hide hB
    have hol := hO.lt
    clear hO hG hB
    by_cases hlt : k < rs.length
    · obtain ⟨r, hrk⟩ : ∃ r, rs[k]? = some r := ⟨_, List.getElem?_eq_getElem hlt⟩
      obtain ⟨b, off, rfl, hbl, hseg⟩ : ∃ b off, a = some ⟨b, off, none⟩ ∧ b < w.heap.size ∧ ∀ (i : Nat) (r : List Nat), rs[i]? = some r → ∃ ai cap, w.cell? ⟨b, off + i, none⟩ = some (.slice ai r.length cap) ∧ Sl w ai r ∧ r.length ≤ maxLen := by
        rcases hg with rfl | h
        · simp at hlt
        · exact h
      obtain ⟨ai, ci, hc0, hsl, hm⟩ := hseg k r hrk
      have hc : wr.cell? ⟨b, off + k, none⟩ = some (.slice ai r.length ci) := (HB.out.cell (p := ⟨b, off + k, none⟩) hbl).trans hc0
      have HS : Hid (Sl wr ai r) := hsl.below HB.out
      have hrl := HRL.out r (List.mem_of_getElem? hrk)
      have HX := hide hrk
      have hki : (k : Int) < (rs.length : Int) := by omega
      have hki2 : (k : Int) < (rs.length : Int) + 3 := by omega
      have HK3 : Hid (k < rs.length + 3) := hide (by omega)
      clear hrk hc0 hsl hm hseg hg
      go_wp2_with (go_at_call 9; refine (spare_any ai ci r wr HS.out hrl).mono ?_; rintro e w2 ⟨rfl, hO2, hB2⟩; have hcr := (HO.out.below hB2 hol).room (Nat.le_refl k) HK3.out; have hfr := (HO.out.below hB2 hol).frozen k)
      go_roundw
      case rel =>
        refine ⟨k + 1, fun j => if j = k then wr.heap.size else G j, by omega, by go_num, ?_, ?_, ?_⟩
        · have h := SpO.push (g := wr.heap.size) (HO.out.below hB2 hol) HK3.out
          rw [spL_in HX.out, spC_in HX.out] at h
          exact h
        · exact (HG.out.push hB2 hol (by rw [spK_in HX.out]; exact hO2)).store
        · exact (bseq HB.out hB2).setCell (Nat.le_refl _) _
      case measure => simp [intOf]; omega
    · by_cases hlt2 : k < rs.length + 3
      · have hki : (rs.length : Int) ≤ (k : Int) := by omega
        have hki2 : (k : Int) < (rs.length : Int) + 3 := by omega
        have hcv : (k : Int) % 256 = ((k % 256 : Nat) : Int) := by omega
        have hcr := HO.out.room (Nat.le_refl k) hlt2
        have hfr := HO.out.frozen k
        have HCV := hide hcv
        have HN : Hid (rs.length ≤ k) := hide (by omega)
        clear hg hcv
        go_wp2
        go_roundw
        case rel =>
          have hsz : (wr.setCell ⟨w.heap.size, k, none⟩ (.slice (some ⟨wr.heap.size, 0, none⟩) 2 2)).heap.size = wr.heap.size := by simp
          have h := SpO.push (g := wr.heap.size) HO.out hlt2
          rw [spL_out HN.out, spC_out HN.out] at h
          have h2 := HG.out.store (i := k) (v := .slice (some ⟨wr.heap.size, 0, none⟩) 2 2)
          have hB2 : Below w.heap.size w (wr.setCell ⟨w.heap.size, k, none⟩ (.slice (some ⟨wr.heap.size, 0, none⟩) 2 2)) := HB.out.setCell (Nat.le_refl _) _
          generalize wr.setCell ⟨w.heap.size, k, none⟩ (.slice (some ⟨wr.heap.size, 0, none⟩) 2 2) = W1 at *
          have hA : Below W1.heap.size W1 (W1.alloc (.cells #[.int .u8 ((k : Int) % 256), .int .u8 119] 5)) := (Below.refl _ _).alloc (Nat.le_refl _) _
          rw [← hsz] at hol h
          refine ⟨k + 1, fun j => if j = k then W1.heap.size else G j, by omega, by go_num, h.below hA hol, ?_, bseq hB2 hA⟩
          refine h2.push hA hol ?_
          rw [spK_out HN.out]
          unfold OwnB
          rw [heap_alloc_new, HCV.out]
          rfl
        case measure => simp [intOf]; omega
      · have hkk : k = rs.length + 3 := by omega
        have hki2 : (rs.length : Int) + 3 ≤ (k : Int) := by omega
        have HK := hide hkk
        clear hg hkk
        go_wp2
        go_ret
        have h1 := HO.out
        have h2 := HG.out
        rw [HK.out] at h1 h2
        exact ⟨rfl, G, h1, h2, HB.out⟩

set_option maxHeartbeats 1000000 in
theorem keptRows_true (o : Nat) (G : Nat → Nat) (a : Option Addr) (c : Nat) (rs : List (List Nat)) (w : World) (hO : SpO w o (rs.length + 3) (rs.length + 3) G rs) (hG : SpG w o (rs.length + 3) G (spK rs)) (hg : SlR w a rs) (hn : rs.length ≤ 1000000000000) (hr : ∀ r ∈ rs, r.length ≤ 140737488355328) :
    Calls Try.prog 27 #[.slice (some ⟨o, 0, none⟩) rs.length (rs.length + 3), .slice a rs.length c] w fun e w' => e = .returned (.bool true) ∧ ∃ n, w' = w.drewN n := by
  have hne : ((rs.length : Int) != (rs.length : Int)) = false := by simp
  have HO := hide hO
  have HG := hide hG
  have HRL := hide hr
  clear hO hG hr
  go_enter Try.func27, Try.ntmps27
  go_wp2
  clear hne
  go_loopw [5] (fun i wr => ∃ k n : Nat, k ≤ rs.length ∧ i = .int .i64 k ∧ wr = w.drewN n) (fun i _ => rs.length - (intOf i).toNat)
  case atStart => exact ⟨0, 0, by omega, rfl, rfl⟩
  case round =>
    obtain ⟨k, n, hk, rfl, hwr⟩ := hrel
    have HWR := hide hwr
    have hBr : Below w.heap.size w wr := by rw [hwr]; exact below_drewN (Below.refl _ _) n
    clear hwr
    by_cases hlt : k < rs.length
    · obtain ⟨r, hrk⟩ : ∃ r, rs[k]? = some r := ⟨_, List.getElem?_eq_getElem hlt⟩
      obtain ⟨b, off, rfl, hbl, hseg⟩ : ∃ b off, a = some ⟨b, off, none⟩ ∧ b < w.heap.size ∧ ∀ (i : Nat) (r : List Nat), rs[i]? = some r → ∃ ai cap, w.cell? ⟨b, off + i, none⟩ = some (.slice ai r.length cap) ∧ Sl w ai r ∧ r.length ≤ maxLen := by
        rcases hg with rfl | h
        · simp at hlt
        · exact h
      obtain ⟨ai, ci, hc0, hsl, hm⟩ := hseg k r hrk
      have hrl := HRL.out r (List.mem_of_getElem? hrk)
      have hwk : ∀ m, OwnB (wr.drewN m) (G k) (r ++ marks r.length) := fun m => by
        have h := HG.out.1 k (by omega)
        rw [spK_in hrk] at h
        exact h.below (below_drewN hBr m) h.lt
      have hc1 : wr.cell? ⟨o, k, none⟩ = some (.slice (some ⟨G k, 0, none⟩) r.length (r.length + 80)) := by
        have h := HO.out.cell (show k < rs.length + 3 by omega)
        rw [spL_in hrk, spC_in hrk] at h
        exact (hBr.cell (p := ⟨o, k, none⟩) HO.out.lt).trans h
      have hc2 : wr.cell? ⟨b, off + k, none⟩ = some (.slice ai r.length ci) := (hBr.cell (p := ⟨b, off + k, none⟩) hbl).trans hc0
      have CE : Hid (∀ m, Calls Try.prog 14 #[.slice (some ⟨G k, 0, none⟩) r.length (r.length + 80), .slice ai r.length ci] (wr.drewN m) fun e w' => e = .returned (.bool true) ∧ ∃ q, w' = (wr.drewN m).drewN q) := fun m =>
        kept_true (G k) ai ci r (wr.drewN m) (hwk m) (hsl.below (below_drewN hBr m)) hrl
      have hki : (k : Int) < (rs.length : Int) := by omega
      clear hwk hseg hsl hm hrk hg hc0 hBr
      go_wp2
      go_quiet ((go_at_call 14; refine Calls.quiet_of (unhide CE _)))
      go_wp2
      go_roundw
      case rel => exact ⟨k + 1, n + nq, by omega, by go_num, by rw [HWR.out, World.drewN_drewN]⟩
      case measure => simp [intOf]; omega
    · have hki : (rs.length : Int) ≤ (k : Int) := by omega
      clear hg hBr
      go_wp2
      go_loopw [7] (fun i wr => ∃ k n : Nat, k ≤ 3 ∧ i = .int .i64 ((rs.length + k : Nat) : Int) ∧ wr = w.drewN n) (fun i _ => rs.length + 3 - (intOf i).toNat)
      case atStart => exact ⟨0, n, by omega, rfl, HWR.out⟩
      case round =>
        clear hk hlt hki HWR
        obtain ⟨q, n2, hq, rfl, hwr⟩ := hrel
        have HWR := hide hwr
        have hBr : Below w.heap.size w wr := by rw [hwr]; exact below_drewN (Below.refl _ _) n2
        clear hwr
        by_cases hlt : q < 3
        · have hle : rs.length ≤ rs.length + q := Nat.le_add_right _ _
          have hj : rs.length + q < rs.length + 3 := by omega
          have hc1 : wr.cell? ⟨o, rs.length + q, none⟩ = some (.slice (some ⟨G (rs.length + q), 0, none⟩) 2 2) := by
            have h := HO.out.cell hj
            rw [spL_out hle, spC_out hle] at h
            exact (hBr.cell (p := ⟨o, rs.length + q, none⟩) HO.out.lt).trans h
          have ho : OwnB wr (G (rs.length + q)) [(rs.length + q) % 256, 119] := by
            have h := HG.out.1 _ hj
            rw [spK_out hle] at h
            exact h.below hBr h.lt
          have hc2 := ho.cell 0 _ rfl
          have hc3 := ho.cell 1 _ rfl
          have HJ : Hid (rs.length + q + 1 = rs.length + (q + 1)) := Nat.add_assoc _ _ _
          have hjm : rs.length + q ≤ 2000000000000 := by omega
          have hji : ((rs.length + q : Nat) : Int) < (rs.length : Int) + 3 := by omega
          have HQ : Hid (rs.length ≤ rs.length + q) := hle
          clear ho hBr hj hle
          generalize G (rs.length + q) = gq at *
          generalize rs.length + q = j at *
          have hcv : (((j % 256 : Nat) : Int) != (j : Int) % 256) = false := by rw [bne_eq_false_iff_eq]; omega
          go_wp2
          go_roundw
          case rel => exact ⟨q + 1, n2, by omega, int_congr' (by have := HJ.out; omega), HWR.out⟩
          case measure => have := HJ.out; simp [intOf]; omega
        · have hqq : q = 3 := by omega
          subst hqq
          have hki : (rs.length : Int) + 3 ≤ ((rs.length + 3 : Nat) : Int) := by omega
          clear hBr
          go_wp2
          go_ret
          exact ⟨rfl, n2, HWR.out⟩

theorem refSum_any (a : Option Addr) (cap : Nat) (bs : List Nat) (w : World) (hg : Sl w a bs) (hl : bs.length ≤ maxLen) :
    Calls Try.prog 24 #[.slice a bs.length cap] w fun e w' => e = .returned (.int .u32 (moreV 0 bs)) ∧ w' = w := by
  have CE := hide (refMore_any 0 a cap bs w (by omega) hg hl)
  go_enter Try.func24, Try.ntmps24
  go_wp2_with (go_at_call 26; refine (unhide CE).mono ?_; rintro e w' ⟨rfl, hw'⟩; replace hw' := hw'.symm; subst hw')
  go_ret
  exact ⟨rfl, rfl⟩

end Go.Proofs.Ytjkglimbmfgllaa
