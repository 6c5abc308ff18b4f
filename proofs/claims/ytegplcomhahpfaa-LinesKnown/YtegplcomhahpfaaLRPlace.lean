/- What the document's Place answers. -/
import Derived.Test.YtegplcomhahpfaaLRAll
import Derived.Test.YtegplcomhahpfaaLBackM
import Derived.Deep.DeepCutAuto
namespace Go.Proofs.Ytegplcomhahpfaa
open Go.RowKit Go.Shelf
set_option linter.unusedVariables false

/-- What a row of lines holds. -/
def SlL (w : World) (a : Option Addr) (xs : List (Nat × Nat × Nat)) : Prop := ∃ g, a = some ⟨g, 0, none⟩ ∧ g < w.heap.size ∧ ∀ k x, xs[k]? = some x → w.cell? ⟨g, k * 3, none⟩ = some (.int .i64 (x.1 : Int)) ∧ w.cell? ⟨g, k * 3 + 1, none⟩ = some (.int .i64 (x.2.1 : Int)) ∧ w.cell? ⟨g, k * 3 + 2, none⟩ = some (.int .i64 (x.2.2 : Int))
theorem flat_get (xs : List (Nat × Nat × Nat)) : ∀ k x, xs[k]? = some x → (xs.flatMap lnC)[k * 3]? = some (.int .i64 (x.1 : Int)) ∧ (xs.flatMap lnC)[k * 3 + 1]? = some (.int .i64 (x.2.1 : Int)) ∧ (xs.flatMap lnC)[k * 3 + 2]? = some (.int .i64 (x.2.2 : Int)) := by
  induction xs with
  | nil => intro k x h; simp at h
  | cons y xs ih =>
    intro k x h
    rw [List.flatMap_cons]
    cases k with
    | zero => simp at h; subst h; simp [lnC]
    | succ k =>
      simp at h
      obtain ⟨h1, h2, h3⟩ := ih k x h
      have hl : (lnC y).length = 3 := rfl
      refine ⟨?_, ?_, ?_⟩
      · rw [List.getElem?_append_right (by omega), hl, show (k + 1) * 3 - 3 = k * 3 by omega]; exact h1
      · rw [List.getElem?_append_right (by omega), hl, show (k + 1) * 3 + 1 - 3 = k * 3 + 1 by omega]; exact h2
      · rw [List.getElem?_append_right (by omega), hl, show (k + 1) * 3 + 2 - 3 = k * 3 + 2 by omega]; exact h3
theorem sll_of_owns {W : World} {base : Nat} {v : Value} {xs : List (Nat × Nat × Nat)} (h : W.ownsRow base 33 3 v xs.length (xs.flatMap lnC)) (hne : 0 < xs.length) : ∃ a cap, v = .slice a xs.length cap ∧ SlL W a xs := by
  rcases h.2 with ⟨rfl, h0⟩ | ⟨g, cap, cur, rfl, _, hg, hn, _, hs, hc⟩
  · omega
  · refine ⟨_, cap, rfl, g, rfl, (Array.getElem?_eq_some_iff.1 hg).1, fun k x hx => ?_⟩
    have hk : k < xs.length := (List.getElem?_eq_some_iff.1 hx).1
    obtain ⟨h1, h2, h3⟩ := flat_get xs k x hx
    have get : ∀ j v, j < xs.length * 3 → (xs.flatMap lnC)[j]? = some v → W.cell? ⟨g, j, none⟩ = some v := fun j v hj hv => by
      rw [← hc, List.getElem?_take, if_pos hj] at hv
      simp only [World.cell?, hg]
      simpa using hv
    exact ⟨get _ _ (by omega) h1, get _ _ (by omega) h2, get _ _ (by omega) h3⟩
theorem SlL.below {w w' : World} {a : Option Addr} {xs : List (Nat × Nat × Nat)} (h : SlL w a xs) (hb : Below w.heap.size w w') : SlL w' a xs := by
  obtain ⟨g, e, hg, hc⟩ := h
  exact ⟨g, e, by have := hb.size; omega, fun k x hx => ⟨(hb.cell (p := ⟨g, _, none⟩) hg).trans (hc k x hx).1, (hb.cell (p := ⟨g, _, none⟩) hg).trans (hc k x hx).2.1, (hb.cell (p := ⟨g, _, none⟩) hg).trans (hc k x hx).2.2⟩⟩

theorem box2_of {W : World} {B : Nat} {t : TypeId} {a b : Value} (h : Box2 W B t a b) : W.cell? ⟨B, 0, none⟩ = some a ∧ W.cell? ⟨B, 1, none⟩ = some b ∧ W.frozen? ⟨B, 0, none⟩ = false ∧ W.frozen? ⟨B, 1, none⟩ = false :=
  ⟨celOf h 0 _ rfl, celOf h 1 _ rfl, frzOf h 0, frzOf h 1⟩
theorem below_iter' {n : Nat} {w X : World} (h : Below n w X) (hn : n ≤ X.heap.size) (s : ByteArray) (pos : Nat) : Below n w (X.iter s pos) := h.alloc hn _

set_option maxRecDepth 100000 in
set_option maxHeartbeats 4000000 in
theorem rplace_in (s : ByteArray) (k p q e : Nat) (c : Int) (w : World) (hs : s.size ≤ 1099511627776) (hx : (Ls (bl s))[k]? = some (p, q, e)) :
    Calls Try.prog 30 #[.string s, .agg #[.int .i64 (k : Int), .int .i64 c]] w fun e w' => e = .returned (.tuple #[.int .i64 (placeV (bl s) (k : Int) c).1, .int .i64 (placeV (bl s) (k : Int) c).2]) ∧ Below w.heap.size w w' := by
  have hm := Ls_mem (List.mem_of_getElem? hx)
  rw [bl_len] at hm
  simp only at hm
  have hlp := Ls_pos (bl s)
  have hll := Ls_len (bl s)
  rw [bl_len] at hll
  have hkl : k < (Ls (bl s)).length := (List.getElem?_eq_some_iff.1 hx).1
  have hka : ∀ w', Calls Try.prog 7 #[.string s] w' fun e w'' => (∃ g cap, e = .returned (.slice (some ⟨g, 0, none⟩) (Ls (bl s)).length cap) ∧ (w''.cell? ⟨g, k * 3, none⟩ = some (.int .i64 (p : Int)) ∧ w''.cell? ⟨g, k * 3 + 1, none⟩ = some (.int .i64 (q : Int)))) ∧ Below w'.heap.size w' w'' := by
    intro w'
    refine (rall_any s w' hs).mono ?_
    rintro e w1 ⟨v, rfl, ho, hB1⟩
    obtain ⟨ad, cap, rfl, hsl⟩ := sll_of_owns ho hlp
    obtain ⟨g, rfl, hg, hcl⟩ := hsl
    obtain ⟨z0, z1, z2⟩ := hcl k _ hx
    exact ⟨⟨g, cap, rfl, z0, z1⟩, hB1⟩
  have hpv : placeV (bl s) (k : Int) c = if (atV (bl (s.extract p q)) c).2 = 0 then ((p : Int) + (atV (bl (s.extract p q)) c).1, 0) else (0, 6) := by
    rw [placeV_at hx, bl_extract]
  have htl : (s.extract p q).size = q - p := by simp; omega
  obtain ⟨t, ht⟩ : ∃ t, s.extract p q = t := ⟨_, rfl⟩
  rw [ht] at htl hpv
  obtain ⟨R, hR⟩ : ∃ R, placeV (bl s) (k : Int) c = R := ⟨_, rfl⟩
  rw [hR] at hpv ⊢
  clear hR
  have HR := hide hpv
  have hkI : (k : Int) < ((Ls (bl s)).length : Int) := by omega
  have hnl : ((Ls (bl s)).length : Int) ≤ 1099511627777 := by omega
  generalize (Ls (bl s)).length = N at *
  have KA := hide hka
  have HT := hide ht
  have hpq : (p : Int) ≤ (q : Int) := by omega
  have hqs : (q : Int) ≤ (s.size : Int) := by omega
  have HM := hide hm
  clear hka hpv hx hm ht hll hlp
  go_enter Try.func30, Try.ntmps30
  go_upto_region 6 with (go_at_call 7; refine (KA.out _).mono ?_; rintro e w1 ⟨⟨g, cap, rfl, z0, z1⟩, hB1⟩; obtain ⟨p0, p1, -, -⟩ := box2_of (show Box2 w1 w.heap.size 47 (.int .i64 (k : Int)) (.int .i64 c) from Box2.below hB1 (heap_alloc_new _ _)))
  have P0 : Box2 (w1.alloc (.cells #[.int .i64 (p : Int), .int .i64 (q : Int)] 28)) w.heap.size 47 (.int .i64 (k : Int)) (.int .i64 c) := Box2.below ((Below.refl _ _).alloc (Nat.le_refl _) _) (Box2.below hB1 (heap_alloc_new _ _))
  have Q0 : Box2 (w1.alloc (.cells #[.int .i64 (p : Int), .int .i64 (q : Int)] 28)) w1.heap.size 28 (.int .i64 (p : Int)) (.int .i64 (q : Int)) := heap_alloc_new _ _
  have hBX : Below w.heap.size w (w1.alloc (.cells #[.int .i64 (p : Int), .int .i64 (q : Int)] 28)) := bseq (bseq ((Below.refl _ _).alloc (Nat.le_refl _) _) hB1) ((Below.refl _ _).alloc (Nat.le_refl _) _)
  generalize w1.alloc (.cells #[.int .i64 (p : Int), .int .i64 (q : Int)] 28) = X at *
  generalize w1.heap.size = B7 at *
  obtain ⟨x0, x1, -, -⟩ := box2_of Q0
  have facts : ∀ pos, (X.iter t pos).cell? ⟨w.heap.size, 1, none⟩ = some (.int .i64 c) ∧ (X.iter t pos).cell? ⟨B7, 0, none⟩ = some (.int .i64 (p : Int)) ∧ (X.iter t pos).cell? ⟨B7, 1, none⟩ = some (.int .i64 (q : Int)) := fun pos => by
    have hb := (Below.refl _ X).alloc (Nat.le_refl _) (.stringIter t pos)
    exact ⟨(box2_of (P0.below hb)).2.1, (box2_of (Q0.below hb)).1, (box2_of (Q0.below hb)).2.1⟩
  have FACTS := hide facts
  have HBX := hide hBX
  have ht := HT.out
  have hts : (t.size : Int) = (q : Int) - (p : Int) := by omega
  clear facts hBX P0 Q0 z0 z1 p0 p1 hB1 KA HT
  go_wp2
  clear x0 x1 ht
  have HTS := hide hts
  clear hts htl
  go_loopw [8] (fun q' w' => ∃ pos m : Nat, w' = X.iter t pos ∧ q' = .int .i64 m ∧ m ≤ pos ∧ pos ≤ t.size ∧ Inv (bl t) pos m ∧ (c < 0 ∨ (m : Int) ≤ c)) (fun _ w' => t.size - w'.iterPos X.heap.size)
  case atStart => exact ⟨0, 0, rfl, rfl, by omega, by omega, Inv.start _, by omega⟩
  case round =>
    obtain ⟨pos, m, rfl, rfl, hmp, hps, hI, hmc⟩ := hrel
    obtain ⟨y0, y1, y2⟩ := FACTS.out pos
    obtain ⟨u0, u1, u2⟩ := FACTS.out (pos + cw ((bl t).drop pos))
    have HI := hide hI
    have hB : ∀ pos, Below w.heap.size w (X.iter t pos) := fun pos => bseq HBX.out (iter_below _ _ _)
    have HB := hide hB
    have hmI : (m : Int) ≤ (t.size : Int) := by omega
    have hpI : (pos : Int) ≤ (t.size : Int) := by omega
    have htb : (t.size : Int) ≤ 1099511627776 := by have := HTS.out; omega
    have hpb : (p : Int) ≤ 1099511627776 := by omega
    clear hI hB hs hnl
    by_cases hlt : pos < t.size
    · have hnx : ∀ ty, (Instr.next (.pointer (some ⟨X.heap.size, 0, none⟩)) true ty).run Try.prog (X.iter t pos) = _ := fun ty => next_in X t pos ty hlt
      have h1 := cw_pos ((bl t).drop pos)
      have h2 := cw_len _ (bl_drop_ne hlt)
      rw [List.length_drop, bl_len] at h2
      by_cases hk : (m : Int) = c
      · have hb : ((m : Int) == c) = true := by simp [hk]
        have HK := hide hk
        clear hk hmc
        go_wp2
        go_ret2
        have h3 := HI.out.here (by rw [bl_len]; exact hlt)
        have h4 := (List.getElem?_eq_some_iff.1 h3).1
        have h5 : atV (bl t) c = ((pos : Int), 0) := by
          rw [← HK.out, atV_in (by omega), pl_here HI.out (by rw [bl_len]; exact hlt)]
        have h7 : R = ((p : Int) + (pos : Int), 0) := by rw [HR.out, h5]; rfl
        rw [h7]
        exact ⟨rfl, HB.out _⟩
      · have hb : ((m : Int) == c) = false := by simp; exact hk
        have HK := hide hk
        have HMC := hide hmc
        clear hk hmc
        go_wp2
        go_roundw
        case rel => exact ⟨_, m + 1, rfl, by go_num, by omega, by omega, HI.out.step (by rw [bl_len]; exact hlt), by have := HK.out; have := HMC.out; omega⟩
        case measure => simp; omega
    · have hnx : ∀ ty, (Instr.next (.pointer (some ⟨X.heap.size, 0, none⟩)) true ty).run Try.prog (X.iter t pos) = _ := fun ty => run_next_end X t pos ty hlt
      have h3 := HI.out.fin (by rw [bl_len]; omega)
      have HF := hide h3
      clear h3
      by_cases hk : (m : Int) = c
      · have hb : ((m : Int) == c) = true := by simp [hk]
        have HK := hide hk
        clear hk hmc
        go_wp2
        go_ret2
        have h5 : atV (bl t) c = (((bl t).length : Int), 0) := by
          rw [← HK.out, HF.out]; exact (order_end (bl t)).2.1
        have h6 := HTS.out
        have h7 : R = ((q : Int), 0) := by rw [HR.out, h5, bl_len]; simp; omega
        rw [h7]
        exact ⟨rfl, HB.out _⟩
      · have hb : ((m : Int) == c) = false := by simp; exact hk
        have HK := hide hk
        have HMC := hide hmc
        clear hk hmc
        go_wp2
        go_ret2
        have h5 : atV (bl t) c = (0, 6) := atV_out (by have := HK.out; have := HMC.out; have := HF.out; omega)
        have h7 : R = (0, 6) := by rw [HR.out, h5]; rfl
        rw [h7]
        exact ⟨rfl, HB.out _⟩

set_option maxRecDepth 100000 in
set_option maxHeartbeats 4000000 in
theorem rplace_out (s : ByteArray) (a c : Int) (w : World) (hs : s.size ≤ 1099511627776) (hx : lineV (bl s) a = ((0, 0), 0, 6)) :
    Calls Try.prog 30 #[.string s, .agg #[.int .i64 a, .int .i64 c]] w fun e w' => e = .returned (.tuple #[.int .i64 0, .int .i64 6]) ∧ Below w.heap.size w w' := by
  have hlp := Ls_pos (bl s)
  have hll := Ls_len (bl s)
  rw [bl_len] at hll
  have hka : ∀ w', Calls Try.prog 7 #[.string s] w' fun e w'' => (∃ g cap, e = .returned (.slice (some ⟨g, 0, none⟩) (Ls (bl s)).length cap)) ∧ Below w'.heap.size w' w'' := by
    intro w'
    refine (rall_any s w' hs).mono ?_
    rintro e w1 ⟨v, rfl, ho, hB1⟩
    obtain ⟨ad, cap, rfl, hsl⟩ := sll_of_owns ho hlp
    obtain ⟨g, rfl, hg, hcl⟩ := hsl
    exact ⟨⟨g, cap, rfl⟩, hB1⟩
  have hout : a < 0 ∨ ((Ls (bl s)).length : Int) ≤ a := by
    by_cases h : 0 ≤ a ∧ a < ((Ls (bl s)).length : Int)
    · exfalso
      unfold lineV at hx
      rw [if_pos h, List.getElem?_eq_getElem (by omega)] at hx
      simp at hx
    · omega
  have hnl : ((Ls (bl s)).length : Int) ≤ 1099511627777 := by omega
  generalize (Ls (bl s)).length = N at *
  have KA := hide hka
  clear hka hx hll hlp hs
  by_cases h0 : a < 0
  · clear hout
    go_enter Try.func30, Try.ntmps30
    go_wp2_with (go_at_call 7; refine (KA.out _).mono ?_; rintro e w1 ⟨⟨g, cap, rfl⟩, hB1⟩; obtain ⟨p0, p1, -, -⟩ := box2_of (show Box2 w1 w.heap.size 47 (.int .i64 a) (.int .i64 c) from Box2.below hB1 (heap_alloc_new _ _)))
    go_ret2
    exact ⟨rfl, bseq ((Below.refl _ _).alloc (Nat.le_refl _) _) hB1⟩
  · have h1 : 0 ≤ a := by omega
    have h2 : (N : Int) ≤ a := by omega
    clear hout h0
    go_enter Try.func30, Try.ntmps30
    go_wp2_with (go_at_call 7; refine (KA.out _).mono ?_; rintro e w1 ⟨⟨g, cap, rfl⟩, hB1⟩; obtain ⟨p0, p1, -, -⟩ := box2_of (show Box2 w1 w.heap.size 47 (.int .i64 a) (.int .i64 c) from Box2.below hB1 (heap_alloc_new _ _)))
    go_ret2
    exact ⟨rfl, bseq ((Below.refl _ _).alloc (Nat.le_refl _) _) hB1⟩

theorem rplace_any (s : ByteArray) (a c : Int) (w : World) (hs : s.size ≤ 1099511627776) :
    Calls Try.prog 30 #[.string s, .agg #[.int .i64 a, .int .i64 c]] w fun e w' => e = .returned (.tuple #[.int .i64 (placeV (bl s) a c).1, .int .i64 (placeV (bl s) a c).2]) ∧ Below w.heap.size w w' := by
  rcases lineV_cases (bl s) a with hl | ⟨p, q, e, hl, hpq, hqe, k, rfl, hx⟩
  · have : placeV (bl s) a c = (0, 6) := by unfold placeV; rw [hl]; rfl
    rw [this]
    exact rplace_out s a c w hs hl
  · exact rplace_in s k p q e c w hs hx
end Go.Proofs.Ytegplcomhahpfaa
