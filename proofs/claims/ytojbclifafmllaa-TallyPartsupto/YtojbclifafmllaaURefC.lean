/- What the document's closed, beginning, Pending and Closes answer. -/
import Derived.Test.YtojbclifafmllaaURef2
import Derived.Test.YtojbclifafmllaaUSeam
import Derived.Laws.IdiomStrings
namespace Go.Proofs.Ytojbclifafmllaa
open Go.RowKit
set_option linter.unusedVariables false

def nexts : List UInt8 := [128, 143, 144, 159, 160, 191]
def rightAll (l : List UInt8) : Bool := decide (l ≠ [] ∧ W l = l.length)
def closedV : Nat → List UInt8 → Bool
  | 0, l => rightAll l
  | m + 1, l => rightAll l || nexts.any (fun x => closedV m (l ++ [x]))

theorem closedV_to (m : Nat) : ∀ l, closedV m l = true → ∃ q : List UInt8, q.length ≤ m ∧ l ++ q ≠ [] ∧ W (l ++ q) = (l ++ q).length := by
  induction m with
  | zero =>
    intro l h
    have := of_decide_eq_true h
    exact ⟨[], by simp, by simpa using this.1, by simpa using this.2⟩
  | succ m ih =>
    intro l h
    unfold closedV at h
    rw [Bool.or_eq_true] at h
    rcases h with h | h
    · have := of_decide_eq_true h
      exact ⟨[], by simp, by simpa using this.1, by simpa using this.2⟩
    · obtain ⟨x, hx, hc⟩ := List.any_eq_true.1 h
      obtain ⟨q, h1, h2, h3⟩ := ih _ hc
      rw [List.append_assoc] at h2 h3
      exact ⟨[x] ++ q, by simp; omega, h2, h3⟩
theorem closedV_of (q : List UInt8) : ∀ (m : Nat) (l : List UInt8), q.length ≤ m → (∀ x ∈ q, x ∈ nexts) → l ++ q ≠ [] → W (l ++ q) = (l ++ q).length → closedV m l = true := by
  induction q with
  | nil =>
    intro m l _ _ h1 h2
    rw [List.append_nil] at h1 h2
    have : rightAll l = true := decide_eq_true ⟨h1, h2⟩
    cases m with
    | zero => exact this
    | succ m => unfold closedV; rw [this]; rfl
  | cons x q ih =>
    intro m l hm hx h1 h2
    cases m with
    | zero => simp at hm
    | succ m =>
      unfold closedV
      rw [Bool.or_eq_true]
      right
      refine List.any_eq_true.2 ⟨x, hx x (by simp), ih m (l ++ [x]) (by simp at hm; omega) (fun y hy => hx y (by simp [hy])) (by simp) (by rw [List.append_assoc]; exact h2)⟩

theorem W_prefix {l q : List UInt8} (h1 : 1 ≤ l.length) : W l = if W (l ++ q) ≤ l.length then W (l ++ q) else 0 := by
  have := W_take (l ++ q) l.length h1
  rwa [List.take_left] at this

def beginningV (l : List UInt8) : Bool := decide (1 ≤ l.length ∧ l.length ≤ 3) && decide (W l = 0) && closedV 3 l
theorem beginning_eq (l : List UInt8) : beginningV l = properV l := by
  rw [Bool.eq_iff_iff]
  unfold beginningV
  rw [Bool.and_eq_true, Bool.and_eq_true, decide_eq_true_eq, decide_eq_true_eq]
  constructor
  · rintro ⟨⟨⟨h1, h3⟩, h0⟩, hc⟩
    obtain ⟨q, g1, g2, g3⟩ := closedV_to 3 l hc
    refine proper_of l h1 h3 q ?_
    have := W_prefix (q := q) h1
    rw [h0] at this
    rw [List.length_append] at g3
    rcases Nat.lt_or_ge l.length (W (l ++ q)) with g | g
    · exact g
    · rw [if_pos g] at this; omega
  · intro hp
    have hpp := hp
    obtain ⟨h1, h3, q, hq⟩ := proper_pos hp
    have h0 : W l = 0 := by rw [W_prefix (q := q) h1, if_neg (by omega)]
    refine ⟨⟨⟨h1, h3⟩, h0⟩, ?_⟩
    unfold properV at hpp
    rw [Bool.or_eq_true, decide_eq_true_eq, decide_eq_true_eq] at hpp
    have key : ∀ c : List UInt8, c.length = 3 → (∀ x ∈ c, x ∈ nexts) → 0 < closesV l c → closedV 3 l = true := by
      intro c hc3 hcn hcl
      obtain ⟨_, _, g3, _⟩ := closes_pos hcl
      rw [List.take_of_length_le (by omega)] at g3
      have h4 := W_le4 (l ++ c)
      have hlen : (l ++ c).length = l.length + 3 := by rw [List.length_append, hc3]
      refine closedV_of (c.take (W (l ++ c) - l.length)) 3 l (by rw [List.length_take]; omega) (fun x hx => hcn x (List.mem_of_mem_take hx)) (fun e => by have := (List.append_eq_nil_iff.1 e).1; rw [this] at h1; simp at h1) ?_
      have e : l ++ c.take (W (l ++ c) - l.length) = (l ++ c).take (W (l ++ c)) := by
        rw [List.take_append, List.take_of_length_le (l := l) (by omega)]
      rw [e, W_take_le (by omega) (Nat.le_refl _), List.length_take, hlen]
      omega
    rcases hpp with h | h
    · exact key _ rfl (by decide) h
    · exact key _ rfl (by decide) h

theorem rightAll_first (l : List UInt8) : rightAll l = ((firstV l).2.2 && decide ((firstV l).2.1 = (l.length : Int))) := by
  unfold rightAll
  by_cases h : l = []
  · subst h; rfl
  · rw [firstV_ne h]
    have hl := List.length_pos_iff.2 h
    rw [Bool.eq_iff_iff]
    simp only [Bool.and_eq_true, decide_eq_true_eq]
    constructor
    · intro g; rw [cw_W (by omega)]; exact ⟨by omega, by omega⟩
    · intro g
      have := cw_W g.1
      exact ⟨h, by omega⟩

theorem run_one (w : World) (x : Nat) (hx : x < 256) : (convert 61 9 (.slice (some ⟨w.heap.size, 0, none⟩) 1 1)).run Try.prog (w.alloc (.cells #[.int .u8 (x : Int)] 5)) = .ok (.string ⟨#[UInt8.ofNat x]⟩) (w.alloc (.cells #[.int .u8 (x : Int)] 5)) := by
  have := run_convert_bytes_back (P := Try.prog) (w.alloc (.cells #[.int .u8 (x : Int)] 5)) 61 9 5 ⟨w.heap.size, 0, none⟩ 1 [UInt8.ofNat x] Try.underlying61 Try.underlying5 Try.underlying9 (fun j hj => by
    have : j = 0 := by simpa using hj
    subst this
    have hm : (UInt8.ofNat x).toNat = x := by simp; omega
    simp [Addr.add, hm])
  exact this

set_option maxRecDepth 100000 in
set_option maxHeartbeats 1000000 in
theorem closed_any (m : Nat) : ∀ (s : ByteArray) (w : World), s.size + m ≤ 6 →
    Calls Try.prog 53 #[.string s, .int .i64 m] w fun e w' => e = .returned (.bool (closedV m (bl s))) ∧ Below w.heap.size w w' := by
  induction m with
  | zero =>
    intro s w hsm
    have kf := fun w => refFirst_any s w (by omega)
    have hr := rightAll_first (bl s)
    rw [bl_len] at hr
    show Calls Try.prog 53 #[.string s, .int .i64 0] w fun e w' => e = .returned (.bool (rightAll (bl s))) ∧ Below w.heap.size w w'
    generalize rightAll (bl s) = R at *
    generalize (firstV (bl s)).1 = f1 at *
    generalize (firstV (bl s)).2.1 = f2 at *
    generalize (firstV (bl s)).2.2 = f3 at *
    have KF := hide kf
    clear kf
    subst hr
    cases f3 with
    | false =>
      go_enter Try.func53, Try.ntmps53
      go_wp2_with (go_at_call 35; refine (KF.out _).mono ?_; rintro e w1 ⟨rfl, hB1⟩)
      go_ret
      exact ⟨rfl, hB1⟩
    | true =>
      by_cases h2 : f2 = (s.size : Int)
      · have h2' : (f2 == (s.size : Int)) = true := by simp [h2]
        rw [decide_eq_true h2]
        clear h2
        go_enter Try.func53, Try.ntmps53
        go_wp2_with (go_at_call 35; refine (KF.out _).mono ?_; rintro e w1 ⟨rfl, hB1⟩)
        go_ret
        exact ⟨rfl, hB1⟩
      · have h2' : (f2 == (s.size : Int)) = false := by simp [h2]
        rw [decide_eq_false h2]
        clear h2
        go_enter Try.func53, Try.ntmps53
        go_wp2_with (go_at_call 35; refine (KF.out _).mono ?_; rintro e w1 ⟨rfl, hB1⟩)
        go_ret
        exact ⟨rfl, hB1⟩
  | succ m ih =>
    intro s w hsm
    have kf := fun w => refFirst_any s w (by omega)
    have hr := rightAll_first (bl s)
    rw [bl_len] at hr
    have hcv : closedV (m + 1) (bl s) = (rightAll (bl s) || nexts.any (fun x => closedV m (bl s ++ [x]))) := rfl
    rw [hcv]
    clear hcv
    have ih' : ∀ (x : UInt8) (w : World), Calls Try.prog 53 #[.string (s ++ ⟨#[x]⟩), .int .i64 m] w fun e w' => e = .returned (.bool (closedV m (bl s ++ [x]))) ∧ Below w.heap.size w w' := by
      intro x w
      have := ih (s ++ ⟨#[x]⟩) w (by rw [ByteArray.size_append]; show s.size + 1 + m ≤ 6; omega)
      rw [bl_append] at this
      exact this
    generalize (firstV (bl s)).1 = f1 at *
    generalize (firstV (bl s)).2.1 = f2 at *
    generalize (firstV (bl s)).2.2 = f3 at *
    generalize rightAll (bl s) = R at *
    have KF := hide kf
    have IH := hide ih'
    clear kf ih ih'
    have hm1 : (((m : Int) + 1) == 0) = false := by simp; omega
    have main : (f3 && (f2 == (s.size : Int))) = false → Calls Try.prog 53 #[.string s, .int .i64 ((m : Int) + 1)] w fun e w' => e = .returned (.bool (nexts.any (fun x => closedV m (bl s ++ [x])))) ∧ Below w.heap.size w w' := by
      intro hf
      have hnx : nexts.length = 6 := rfl
      have hF : f3 = false ∨ (f3 = true ∧ (f2 == (s.size : Int)) = false) := by cases f3 <;> simp_all
      clear hf hr
      have hss : s.size ≤ 6 := by omega
      rcases hF with rfl | ⟨rfl, hf2⟩
      all_goals
        go_enter Try.func53, Try.ntmps53
        go_wp2_with (first | (go_at_call 35; refine (KF.out _).mono ?_; rintro e w1 ⟨rfl, hB1⟩))
        have hB2 : Below w.heap.size w (w1.alloc (.cells #[.int .u8 128, .int .u8 143, .int .u8 144, .int .u8 159, .int .u8 160, .int .u8 191] 5)) := bseq hB1 ((Below.refl _ _).alloc (Nat.le_refl _) _)
        have hsl : ∀ (k : Nat) (x : UInt8), nexts[k]? = some x → (w1.alloc (.cells #[.int .u8 128, .int .u8 143, .int .u8 144, .int .u8 159, .int .u8 160, .int .u8 191] 5)).cell? ⟨w1.heap.size, k, none⟩ = some (.int .u8 (x.toNat : Int)) := by
          intro k x hx
          rw [World.cell?_alloc_mark]
          match k, hx with
          | 0, hx => simp [nexts] at hx; subst hx; rfl
          | 1, hx => simp [nexts] at hx; subst hx; rfl
          | 2, hx => simp [nexts] at hx; subst hx; rfl
          | 3, hx => simp [nexts] at hx; subst hx; rfl
          | 4, hx => simp [nexts] at hx; subst hx; rfl
          | 5, hx => simp [nexts] at hx; subst hx; rfl
          | k + 6, hx => simp [nexts] at hx
        have hsz : w1.heap.size < (w1.alloc (.cells #[.int .u8 128, .int .u8 143, .int .u8 144, .int .u8 159, .int .u8 160, .int .u8 191] 5)).heap.size := by simp
        generalize (w1.alloc (.cells #[.int .u8 128, .int .u8 143, .int .u8 144, .int .u8 159, .int .u8 160, .int .u8 191] 5)) = w2 at *
        generalize w1.heap.size = G at *
        have HB2 := hide hB2
        have HSL := hide hsl
        have HSZ := hide hsz
        clear hB2 hsl hsz hB1
        go_loopw [9] (fun q wr => ∃ k : Nat, k ≤ 6 ∧ q = .int .i64 k ∧ Below w.heap.size w wr ∧ Below w2.heap.size w2 wr ∧ (∀ (j : Nat) (x : UInt8), j < k → nexts[j]? = some x → closedV m (bl s ++ [x]) = false)) (fun q _ => 6 - (intOf q).toNat)
        case atStart => exact ⟨0, by omega, rfl, HB2.out, Below.refl _ _, fun j x h => by omega⟩
        case round =>
          obtain ⟨k, hk6, rfl, hB, hB', hj⟩ := hrel
          have HB := hide hB
          have HBB := hide hB'
          have HJ := hide hj
          clear hB hB' hj
          by_cases hlt : k < 6
          · obtain ⟨x, hx⟩ : ∃ x, nexts[k]? = some x := ⟨_, List.getElem?_eq_getElem (by rw [hnx]; exact hlt)⟩
            have hcell : wr.cell? ⟨G, k, none⟩ = some (.int .u8 (x.toNat : Int)) := (HBB.out.cell (p := ⟨G, k, none⟩) HSZ.out).trans (HSL.out k x hx)
            have hx8 : x.toNat < 256 := UInt8.toNat_lt _
            have hone := fun w => run_one w x.toNat hx8
            have hxe : UInt8.ofNat x.toNat = x := by simp
            rw [hxe] at hone
            have kc := IH.out x
            have HX := hide hx
            clear hx hxe
            have hki : (k : Int) < 6 := by omega
            have e1 : ((m : Int) + 1 - 1) = (m : Int) := by omega
            cases hcl : closedV m (bl s ++ [x]) with
            | true =>
              rw [hcl] at kc
              have KC := hide kc
              have HCL := hide hcl
              clear kc hcl
              go_wp2_with (go_at_call 53; refine (KC.out _).mono ?_; rintro e w3 ⟨rfl, hB3⟩)
              go_ret
              refine ⟨ret_bool (Eq.symm (List.any_eq_true.2 ⟨x, List.mem_of_getElem? HX.out, HCL.out⟩)), bseq HB.out (bseq ((Below.refl _ _).alloc (Nat.le_refl _) _) hB3)⟩
            | false =>
              rw [hcl] at kc
              have KC := hide kc
              have HCL := hide hcl
              clear kc hcl
              go_wp2_with (go_at_call 53; refine (KC.out _).mono ?_; rintro e w3 ⟨rfl, hB3⟩)
              go_roundw
              case rel =>
                refine ⟨k + 1, by omega, by go_num, bseq HB.out (bseq ((Below.refl _ _).alloc (Nat.le_refl _) _) hB3), bseq HBB.out (bseq ((Below.refl _ _).alloc (Nat.le_refl _) _) hB3), fun j y h1 h2 => ?_⟩
                by_cases hjk : j < k
                · exact HJ.out j y hjk h2
                · have : j = k := by omega
                  subst this
                  rw [HX.out] at h2
                  cases h2
                  exact HCL.out
              case measure => simp [intOf]; omega
          · have hkk : k = 6 := by omega
            subst hkk
            go_wp2
            go_ret
            refine ⟨ret_bool (Eq.symm (List.any_eq_false.2 fun x hx => ?_)), HB.out⟩
            obtain ⟨j, hj⟩ := List.getElem?_of_mem hx
            have hjl := (List.getElem?_eq_some_iff.1 hj).1
            rw [hnx] at hjl
            rw [HJ.out j x hjl hj]
            simp
    have ecast : ((m + 1 : Nat) : Int) = (m : Int) + 1 := by omega
    rw [ecast]
    clear ecast
    cases hq : (f3 && (f2 == (s.size : Int))) with
    | false =>
      have : R = false := by rw [hr, ← hq]; rfl
      rw [this, Bool.false_or]
      exact main hq
    | true =>
      have : R = true := by rw [hr, ← hq]; rfl
      rw [this, Bool.true_or]
      rw [Bool.and_eq_true] at hq
      obtain ⟨rfl, hf2⟩ := hq
      clear main hr this
      go_enter Try.func53, Try.ntmps53
      go_wp2_with (first | (go_at_call 35; refine (KF.out _).mono ?_; rintro e w1 ⟨rfl, hB1⟩))
      go_ret
      exact ⟨rfl, hB1⟩

theorem beginning_any (s : ByteArray) (w : World) (hs : s.size ≤ 9223372036854775807) :
    Calls Try.prog 51 #[.string s] w fun e w' => e = .returned (.bool (properV (bl s))) ∧ Below w.heap.size w w' := by
  rw [← beginning_eq]
  unfold beginningV
  rw [bl_len]
  by_cases h1 : s.size < 1
  · have h1' : (s.size : Int) < 1 := by omega
    have e : (decide (1 ≤ s.size ∧ s.size ≤ 3)) = false := decide_eq_false (by omega)
    rw [e]
    clear h1 e
    go_enter Try.func51, Try.ntmps51
    go_wp2
    go_ret
    exact ⟨rfl, Below.refl _ _⟩
  · by_cases h3 : 3 < s.size
    · have h1' : (1 : Int) ≤ (s.size : Int) := by omega
      have h3' : (3 : Int) < (s.size : Int) := by omega
      have e : (decide (1 ≤ s.size ∧ s.size ≤ 3)) = false := decide_eq_false (by omega)
      rw [e]
      clear h1 h3 e
      go_enter Try.func51, Try.ntmps51
      go_wp2
      go_ret
      exact ⟨rfl, Below.refl _ _⟩
    · have h1' : (1 : Int) ≤ (s.size : Int) := by omega
      have h3' : (s.size : Int) ≤ 3 := by omega
      have e : (decide (1 ≤ s.size ∧ s.size ≤ 3)) = true := decide_eq_true (by omega)
      rw [e]
      clear e
      have kf := fun w => refFirst_any s w hs
      have kc := fun w => closed_any 3 s w (by omega)
      have hne : bl s ≠ [] := bl_ne (by omega)
      have hcl := cw_len _ hne
      rw [bl_len] at hcl
      rw [firstV_ne hne] at kf
      have hcl' : (cw (bl s) : Int) ≤ (s.size : Int) := by omega
      by_cases h0 : W (bl s) = 0
      · rw [decide_eq_true h0, Bool.true_and, Bool.true_and]
        rw [decide_eq_false (not_not_intro h0)] at kf
        generalize closedV 3 (bl s) = C at *
        generalize rune (bl s) = r at *
        generalize cw (bl s) = c at *
        have KF := hide kf
        have KC := hide kc
        clear kf kc h0
        go_enter Try.func51, Try.ntmps51
        go_wp2_with (first | (go_at_call 35; refine (KF.out _).mono ?_; rintro e w1 ⟨rfl, hB1⟩) | (go_at_call 53; refine (KC.out _).mono ?_; rintro e w2 ⟨rfl, hB2⟩))
        go_ret
        exact ⟨rfl, bseq hB1 hB2⟩
      · rw [decide_eq_false h0, Bool.and_false, Bool.false_and]
        rw [decide_eq_true h0] at kf
        generalize rune (bl s) = r at *
        generalize cw (bl s) = c at *
        have KF := hide kf
        clear kf kc h0
        go_enter Try.func51, Try.ntmps51
        go_wp2_with (first | (go_at_call 35; refine (KF.out _).mono ?_; rintro e w1 ⟨rfl, hB1⟩))
        go_ret
        exact ⟨rfl, hB1⟩

set_option maxHeartbeats 400000 in
theorem refPending_any (s : ByteArray) (w : World) (hs : s.size ≤ 9223372036854775807) :
    Calls Try.prog 39 #[.string s] w fun e w' => e = .returned (.int .i64 (pendingV (bl s) : Nat)) ∧ Below w.heap.size w w' := by
  go_enter Try.func39, Try.ntmps39
  go_wp2
  go_loopw [3] (fun q w' => ∃ n f : Nat, n + f = 4 ∧ 1 ≤ n ∧ q = .int .i64 n ∧ Below w.heap.size w w' ∧ pendF (bl s) f n = pendingV (bl s)) (fun q _ => 4 - (intOf q).toNat)
  case atStart => exact ⟨1, 3, rfl, by omega, rfl, Below.refl _ _, rfl⟩
  case round =>
    obtain ⟨n, f, hnf, hn1, rfl, hB, hp⟩ := hrel
    have HB := hide hB
    have HP := hide hp
    clear hB hp
    by_cases h4 : n = 4
    · subst h4
      have hf : f = 0 := by omega
      subst hf
      go_wp2
      go_ret
      exact ⟨ret_int (by rw [← HP.out]; rfl), HB.out⟩
    · have h4' : (n : Int) ≤ 3 := by omega
      obtain ⟨g, rfl⟩ : ∃ g, f = g + 1 := ⟨f - 1, by omega⟩
      by_cases hl : n ≤ s.size
      · have hl' : (n : Int) ≤ (s.size : Int) := by omega
        have hpr := fun w => beginning_any (s.extract (s.size - n) s.size) w (by rw [ByteArray.size_extract]; omega)
        rw [bl_from] at hpr
        have e1 : ((s.size : Int) - (n : Int)).toNat = s.size - n := by omega
        have HE := hide hpr
        clear hpr
        by_cases hc : properV ((bl s).drop (s.size - n)) = true
        · rw [hc] at HE
          have HC := hide hc
          clear hc
          go_wp2_with (go_at_call 51; refine (HE.out _).mono ?_; rintro e w2 ⟨rfl, hB2⟩)
          go_ret
          refine ⟨ret_int ?_, bseq HB.out hB2⟩
          rw [← HP.out]
          unfold pendF
          rw [bl_len, if_pos hl, if_pos HC.out]
        · have hc' : properV ((bl s).drop (s.size - n)) = false := by simpa using hc
          rw [hc'] at HE
          have HC := hide hc
          clear hc hc'
          go_wp2_with (go_at_call 51; refine (HE.out _).mono ?_; rintro e w2 ⟨rfl, hB2⟩)
          go_roundw
          case rel =>
            refine ⟨n + 1, g, by omega, by omega, by go_num, bseq HB.out hB2, ?_⟩
            rw [← HP.out]
            show _ = pendF (bl s) (g + 1) n
            conv => rhs; unfold pendF
            rw [bl_len, if_pos hl, if_neg HC.out]
          case measure => simp [intOf]; omega
      · have hl' : (s.size : Int) < (n : Int) := by omega
        go_wp2
        go_ret
        refine ⟨ret_int ?_, HB.out⟩
        rw [← HP.out]
        unfold pendF
        rw [bl_len, if_neg hl]
        rfl

/-- How many of the first bytes of q make p right, looked for one by one. -/
theorem closes_one {p q : List UInt8} (hp : properV p = true) (n : Nat) (h1 : 1 ≤ n) (h3 : n ≤ 3) (hq : n ≤ q.length) : rightAll (p ++ q.take n) = decide (closesV p q = n) := by
  obtain ⟨g1, g3, c, hc⟩ := proper_pos hp
  have hne : p ++ q.take n ≠ [] := fun e => by have := (List.append_eq_nil_iff.1 e).1; rw [this] at g1; simp at g1
  have hlen : (p ++ q.take n).length = p.length + n := by rw [List.length_append, List.length_take]; omega
  have h0 : W p = 0 := by rw [W_prefix (q := c) g1, if_neg (by omega)]
  have hcl : closesV p q = cw (p ++ q.take 3) - p.length := by
    unfold closesV; rw [if_neg]; intro hh; rcases hh with hh | hh; rw [hh] at g1; simp at g1; omega
  have hpre : (p ++ q.take 3).take (p.length + n) = p ++ q.take n := by
    rw [List.take_append, List.take_of_length_le (l := p) (by omega), List.take_take]
    congr 2; omega
  have hW : W (p ++ q.take n) = if W (p ++ q.take 3) ≤ p.length + n then W (p ++ q.take 3) else 0 := by rw [← hpre, W_take _ _ (by omega)]
  have hp3 := W_prefix (l := p) (q := q.take 3) g1
  rw [h0] at hp3
  unfold rightAll
  rw [decide_eq_decide, hlen, hcl]
  rcases Nat.lt_or_ge p.length (W (p ++ q.take 3)) with g | g
  · rw [cw_W (by omega), hW]
    constructor
    · rintro ⟨_, h⟩
      split at h <;> omega
    · intro h
      exact ⟨hne, by rw [if_pos (by omega)]; omega⟩
  · rw [if_pos g] at hp3
    rw [cw_0 hp3.symm, hW, ← hp3]
    constructor
    · rintro ⟨_, h⟩
      split at h <;> omega
    · intro h; omega
theorem closes_none' {p q : List UInt8} (hp : properV p = false) : closesV p q = 0 := by
  rcases Nat.eq_zero_or_pos (closesV p q) with h | h
  · exact h
  · obtain ⟨h1, h2, h3, _⟩ := closes_pos h
    rw [proper_of p h1 h2 _ h3] at hp
    cases hp
theorem closes_bound {p q : List UInt8} (h : 0 < closesV p q) : closesV p q ≤ 3 ∧ closesV p q ≤ q.length := by
  obtain ⟨h1, h2, h3, h4⟩ := closes_pos h
  have h5 := W_le4 (p ++ q.take 3)
  have h6 := W_len (p ++ q.take 3) (fun e => by have := (List.append_eq_nil_iff.1 e).1; rw [this] at h1; simp at h1)
  rw [List.length_append, List.length_take] at h6
  omega

end Go.Proofs.Ytojbclifafmllaa
