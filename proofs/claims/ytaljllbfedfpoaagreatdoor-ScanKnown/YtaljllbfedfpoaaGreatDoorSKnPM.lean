/- ScanKnown holds: the chapter's examples, the longest line and one that is longer. Condition: the six variables of the library are as the program lays them. -/
import Derived.Test.YtaljllbfedfpoaaGreatDoorSTok
import Derived.Test.YtaljllbfedfpoaaGreatDoorSEscA
import Derived.Test.YtaljllbfedfpoaaGreatDoorUPlaces
import Derived.RangeFuncNested
import Derived.RangeFuncBound
import Derived.RangeFuncCalls
import Derived.RangeFuncLeaves
import Derived.RangeFuncBox
import Derived.Shelf.Abstract
import Derived.Shelf.RegionOpen
import Derived.WalkKit
import Derived.OwnWalkIn
import Derived.TacticsInMore
import Derived.LoopNIn
import Derived.LoopIn
import Derived.Maps.AppendAt
import Derived.Lib.OthersKept
import Derived.WalkSmall
import Derived.Test.YtaljllbfedfpoaaGreatDoorTShelf
import Derived.Test.YtaljllbfedfpoaaGreatDoorUFirst
import Derived.WalkMore
import Derived.Stop.RegionWithIn
import Derived.OwnWalk
import Derived.Laws.AppendOwn
import Derived.Deep.RegionHeld3
import Derived.BigQuiet
import Derived.Deep.QuietTactic
import Derived.Test.YtaljllbfedfpoaaGreatDoorSWrk
import Derived.Test.YtaljllbfedfpoaaGreatDoorSTokXM
import Derived.Test.YtaljllbfedfpoaaGreatDoorSPrsWM
import Derived.Deep.DeepCutAuto
import Derived.Great.BuildSlice
import Derived.Deep.OwnRows
import Derived.ProofKit
import Derived.ChangeOld
import Derived.ChangeMaps5
import Derived.SizedLaws
import Derived.JoinedCond
import Derived.Test.YtaljllbfedfpoaaGreatDoorCards
import Derived.Test.YtaljllbfedfpoaaGreatDoorTie
import Derived.Test.YtaljllbfedfpoaaGreatDoorSFmt
import Derived.Test.YtaljllbfedfpoaaGreatDoorSNum
import Derived.OpenShut
import Derived.Deep.DeepHandedRow
import Derived.Deep.DeepWitnessRowRef
import Derived.Lib.LaidTab
import Derived.LaidMore
import Derived.LaidLaws
namespace Go.Proofs.YtaljllbfedfpoaaGreatDoor
open Go.RowKit Go.Shelf
set_option linter.unusedVariables false

/-- Neither blank nor a remark. -/
def saysV (s : ByteArray) : Bool := !decide (skp blankC (bl s) = s.size) && !isAt s (skp blankC (bl s)) 35
set_option maxRecDepth 100000 in
set_option maxHeartbeats 4000000 in
theorem says_any (s : ByteArray) (w : World) (hs : s.size ≤ 140737488355328) :
    Calls Tryz.prog 71 #[.string s] w fun e w' => e = .returned (.bool (saysV s)) ∧ Below w.heap.size w w' := by
  have hR0 : Rd (w.alloc (.cells #[.string s, .int .i64 0] 58)) w.heap.size s 0 := heap_alloc_new w _
  have hB0 : Below w.heap.size w (w.alloc (.cells #[.string s, .int .i64 0] 58)) := (Below.refl _ _).alloc (Nat.le_refl _) _
  have HR := hide hR0
  have HG := hide (grown_drewN (w.alloc (.cells #[.string s, .int .i64 0] 58)) 0 (some w.heap.size))
  have hle := skp_le blankC (bl s)
  rw [bl_len] at hle
  have ks := fun x (h : Rd x w.heap.size s 0) => skipBlank w.heap.size s 0 x h (Nat.zero_le _) hs
  simp only [List.drop_zero, Nat.zero_add] at ks
  unfold saysV
  generalize skp blankC (bl s) = k at *
  have KS := hide ks
  have kd := fun x (h : Rd x w.heap.size s k) => done_any w.heap.size s k x h hle
  by_cases hk : k = s.size
  · rw [decide_eq_true hk] at kd ⊢
    have KD := hide kd
    clear kd ks hR0
    go_enter Tryz.func71, Tryz.ntmps71
    go_wp2_with (first | (go_at_call 26; refine (KS.out _ HR.out).mono ?_; rintro e x ⟨rfl, hRx, hgx⟩; have HRX := hide hRx; have HGX := hide (grown_trans HG.out hgx); clear hRx hgx HR) | (go_at_call 28; refine (KD.out _ HRX.out).mono ?_; rintro e z ⟨rfl, nz, hz⟩; have HGZ := hide (grown_trans HGX.out (grown_drewN _ nz _)); have HRZ := hide (HRX.out.drewN nz); rw [← hz] at HGZ HRZ; clear hz HRX))
    go_ret
    refine ⟨rfl, ?_⟩
    exact hB0.grown HGZ.out hB0.size (fun k e => by cases e; exact Nat.le_refl _)
  · rw [decide_eq_false hk] at kd ⊢
    have KD := hide kd
    have kt := fun x (h : Rd x w.heap.size s k) => takes_any w.heap.size s k 35 x h hle hs
    cases ht : isAt s k 35 with
    | true =>
      rw [ht] at kt
      have KT := hide kt
      clear kt kd ks hR0
      go_enter Tryz.func71, Tryz.ntmps71
      go_wp2_with (first | (go_at_call 26; refine (KS.out _ HR.out).mono ?_; rintro e x ⟨rfl, hRx, hgx⟩; have HRX := hide hRx; have HGX := hide (grown_trans HG.out hgx); clear hRx hgx HR) | (go_at_call 28; refine (KD.out _ HRX.out).mono ?_; rintro e z ⟨rfl, nz, hz⟩; have HGZ := hide (grown_trans HGX.out (grown_drewN _ nz _)); have HRZ := hide (HRX.out.drewN nz); rw [← hz] at HGZ HRZ; clear hz HRX) | (go_at_call 29; refine (KT.out _ HRZ.out).mono ?_; rintro e y ⟨rfl, hRy, hgy⟩; have HGY := hide (grown_trans HGZ.out hgy); clear hRy hgy HRZ))
      go_ret
      refine ⟨rfl, ?_⟩
      exact hB0.grown HGY.out hB0.size (fun k e => by cases e; exact Nat.le_refl _)
    | false =>
      rw [ht] at kt
      have KT := hide kt
      clear kt kd ks hR0
      go_enter Tryz.func71, Tryz.ntmps71
      go_wp2_with (first | (go_at_call 26; refine (KS.out _ HR.out).mono ?_; rintro e x ⟨rfl, hRx, hgx⟩; have HRX := hide hRx; have HGX := hide (grown_trans HG.out hgx); clear hRx hgx HR) | (go_at_call 28; refine (KD.out _ HRX.out).mono ?_; rintro e z ⟨rfl, nz, hz⟩; have HGZ := hide (grown_trans HGX.out (grown_drewN _ nz _)); have HRZ := hide (HRX.out.drewN nz); rw [← hz] at HGZ HRZ; clear hz HRX) | (go_at_call 29; refine (KT.out _ HRZ.out).mono ?_; rintro e y ⟨rfl, hRy, hgy⟩; have HGY := hide (grown_trans HGZ.out hgy); clear hRy hgy HRZ))
      go_ret
      refine ⟨rfl, ?_⟩
      exact hB0.grown HGY.out hB0.size (fun k e => by cases e; exact Nat.le_refl _)
end Go.Proofs.YtaljllbfedfpoaaGreatDoor
namespace Go.Proofs.YtaljllbfedfpoaaGreatDoor
set_option linter.unusedVariables false

theorem Cs_lt {l : List UInt8} {k : Nat} {e : Nat × Nat × Nat} (h : (Cs 0 l)[k]? = some e) : e.1 < l.length ∧ e.1 + e.2.2 ≤ l.length ∧ 1 ≤ e.2.2 ∧ e.2.2 ≤ 4 ∧ e.2.1 = rune (l.drop e.1) ∧ e.2.2 = cw (l.drop e.1) := by
  have := Cs_mem l 0 e (List.mem_of_getElem? h)
  rw [Nat.sub_zero] at this
  refine ⟨by omega, by omega, this.2.2.1, this.2.2.2.1, this.2.2.2.2⟩
theorem Cs_two {l : List UInt8} {k m : Nat} {e f : Nat × Nat × Nat} (hk : (Cs 0 l)[k]? = some e) (hm : (Cs 0 l)[m]? = some f) (h : k < m) : e.1 + e.2.2 ≤ f.1 := by
  obtain ⟨h1, rfl⟩ := List.getElem?_eq_some_iff.1 hk
  obtain ⟨h2, rfl⟩ := List.getElem?_eq_some_iff.1 hm
  exact List.pairwise_iff_getElem.1 (Cs_sorted l 0) k m h1 h2 h
theorem ofN_at {l : List UInt8} {k i : Nat} {e : Nat × Nat × Nat} (hk : (Cs 0 l)[k]? = some e) (h1 : e.1 ≤ i) (h2 : i < e.1 + e.2.2) : ofN l i = k + 1 := by
  have hkl := (List.getElem?_eq_some_iff.1 hk).1
  unfold ofN
  rw [← List.take_append_drop (k + 1) (Cs 0 l), List.filter_append]
  have a1 : ((Cs 0 l).take (k + 1)).filter (fun e => decide (e.1 ≤ i)) = (Cs 0 l).take (k + 1) := by
    rw [List.filter_eq_self]
    intro x hx
    obtain ⟨m, hm⟩ := List.getElem?_of_mem hx
    have hmk : m < k + 1 := by have := (List.getElem?_eq_some_iff.1 hm).1; rw [List.length_take] at this; omega
    rw [List.getElem?_take, if_pos hmk] at hm
    by_cases he : m = k
    · subst he; rw [hk] at hm; cases hm; simpa using h1
    · have := Cs_two hm hk (by omega)
      simp; omega
  have a2 : ((Cs 0 l).drop (k + 1)).filter (fun e => decide (e.1 ≤ i)) = [] := by
    rw [List.filter_eq_nil_iff]
    intro x hx
    obtain ⟨m, hm⟩ := List.getElem?_of_mem hx
    rw [List.getElem?_drop] at hm
    have := Cs_two hk hm (by omega)
    simp; omega
  rw [a1, a2, List.append_nil, List.length_take]
  omega
theorem ofN_end (l : List UInt8) : ofN l l.length = (Cs 0 l).length := by
  unfold ofN
  rw [List.filter_eq_self.2]
  intro e he
  have := Cs_mem l 0 e he
  simp; omega
theorem atV_in {l : List UInt8} {k : Nat} (h : k ≤ (Cs 0 l).length) : atV l (k : Int) = ((pl l k : Int), 0) := by
  unfold atV; rw [if_pos ⟨by omega, by omega⟩, Int.toNat_natCast]
theorem atV_out {l : List UInt8} {n : Int} (h : n < 0 ∨ ((Cs 0 l).length : Int) < n) : atV l n = (0, 6) := by
  unfold atV; rw [if_neg (by omega)]
theorem pl_at {l : List UInt8} {k : Nat} {e : Nat × Nat × Nat} (hk : (Cs 0 l)[k]? = some e) : pl l k = e.1 := by unfold pl; rw [hk]

theorem order_in (l : List UInt8) (i : Nat) (hi : i < l.length) : ∃ k b nx : Nat, ofV l i = ((k : Int), 0) ∧ atV l k = ((b : Int), 0) ∧ b ≤ i ∧ i ≤ b + 3 ∧ beginsV l i = decide (b = i) ∧
    atV l ((k : Int) + 1) = ((nx : Int), 0) ∧ i < nx ∧ nx ≤ l.length ∧ k < l.length := by
  obtain ⟨j, ⟨e, he, rfl⟩, h1, h2⟩ := St_cover l i hi
  obtain ⟨k, hk⟩ := List.getElem?_of_mem he
  have hl := Cs_lt hk
  have hkl := (List.getElem?_eq_some_iff.1 hk).1
  have hcl := Cs_len_le l
  rw [← hl.2.2.2.2.2] at h2
  have hN := ofN_at hk h1 h2
  have hofv : ofV l i = ((k : Int), 0) := by
    unfold ofV
    rw [if_pos ⟨by omega, by omega⟩, if_neg (by omega), Int.toNat_natCast, hN]
    congr 1; omega
  have hbg : beginsV l i = decide (e.1 = i) := by
    unfold beginsV
    rw [decide_eq_true (by omega : (0 : Int) ≤ (i : Int)), decide_eq_true (by omega : (i : Int) ≤ (l.length : Int)), decide_eq_false (by omega : ¬ (i : Int) = (l.length : Int)), Int.toNat_natCast]
    simp only [Bool.and_self, Bool.true_and, Bool.false_or]
    rw [decide_eq_decide, begins_iff l i hi]
    constructor
    · intro hs
      by_cases hei : e.1 = i
      · exact hei
      · have := St_two hs ⟨e, he, rfl⟩ (by omega)
        rw [← hl.2.2.2.2.2] at this
        omega
    · intro hei
      exact ⟨e, he, hei⟩
  have hnx : ∃ nx : Nat, pl l (k + 1) = nx ∧ i < nx ∧ nx ≤ l.length := by
    by_cases hk1 : k + 1 < (Cs 0 l).length
    · obtain ⟨f, hf⟩ : ∃ f, (Cs 0 l)[k + 1]? = some f := ⟨_, List.getElem?_eq_getElem hk1⟩
      have := Cs_two hk hf (by omega)
      have hfl := Cs_lt hf
      exact ⟨f.1, pl_at hf, by omega, by omega⟩
    · have : k + 1 = (Cs 0 l).length := by omega
      exact ⟨l.length, by rw [this, pl_fin], hi, Nat.le_refl _⟩
  obtain ⟨nx, hx1, hx2, hx3⟩ := hnx
  refine ⟨k, e.1, nx, hofv, ?_, h1, by omega, hbg, ?_, hx2, hx3, by omega⟩
  · rw [atV_in (by omega), pl_at hk]
  · have := atV_in (l := l) (k := k + 1) (by omega)
    rw [hx1] at this
    exact this

theorem order_end (l : List UInt8) : ofV l l.length = (((Cs 0 l).length : Int), 0) ∧ atV l (Cs 0 l).length = ((l.length : Int), 0) ∧ beginsV l l.length = true ∧ atV l (((Cs 0 l).length : Int) + 1) = (0, 6) := by
  refine ⟨?_, ?_, ?_, atV_out (by omega)⟩
  · unfold ofV
    rw [if_pos ⟨by omega, by omega⟩, if_pos rfl, Int.toNat_natCast, ofN_end]
  · rw [atV_in (Nat.le_refl _), pl_fin]
  · unfold beginsV
    rw [decide_eq_true (by omega : (0 : Int) ≤ (l.length : Int)), decide_eq_true (by omega : (l.length : Int) ≤ (l.length : Int)), decide_eq_true rfl]
    rfl
theorem order_out (l : List UInt8) (n : Int) (h : n < 0 ∨ (l.length : Int) < n) : ofV l n = (0, 6) ∧ beginsV l n = false := by
  refine ⟨by unfold ofV; rw [if_neg (by omega)], ?_⟩
  unfold beginsV
  rcases h with h | h
  · rw [decide_eq_false (by omega : ¬ (0 : Int) ≤ n)]; rfl
  · rw [decide_eq_false (by omega : ¬ n ≤ (l.length : Int)), Bool.and_false]; rfl

theorem order_char (l : List UInt8) (k : Nat) (h : k ≤ (Cs 0 l).length) : ∃ p : Nat, atV l k = ((p : Int), 0) ∧ ofV l p = ((k : Int), 0) ∧ p ≤ l.length := by
  by_cases hk : k < (Cs 0 l).length
  · obtain ⟨e, he⟩ : ∃ f, (Cs 0 l)[k]? = some f := ⟨_, List.getElem?_eq_getElem hk⟩
    have hl := Cs_lt he
    refine ⟨e.1, by rw [atV_in h, pl_at he], ?_, by omega⟩
    unfold ofV
    rw [if_pos ⟨by omega, by omega⟩, if_neg (by omega), Int.toNat_natCast, ofN_at he (Nat.le_refl _) (by omega)]
    congr 1; omega
  · have hk' : k = (Cs 0 l).length := by omega
    subst hk'
    have := order_end l
    exact ⟨l.length, this.2.1, this.1, Nat.le_refl _⟩
end Go.Proofs.YtaljllbfedfpoaaGreatDoor
namespace Go.Proofs.YtaljllbfedfpoaaGreatDoor
set_option linter.unusedVariables false

/-- How wide the line end is that begins with these bytes behind the byte p; 0, if none does. -/
def endB (p b0 b1 b2 : Nat) : Nat :=
  if b0 = 13 then (if b1 = 10 then 2 else 1) else if b0 = 10 then (if p = 13 then 0 else 1) else if b0 = 194 ∧ b1 = 133 then 2
  else if b0 = 226 ∧ b1 = 128 ∧ (b2 = 168 ∨ b2 = 169) then 3 else 0
def pv (l : List UInt8) (i : Nat) : Nat := if i = 0 then 0 else by' l (i - 1)
def endW (l : List UInt8) (i : Nat) : Nat := endB (pv l i) (by' l i) (by' l (i + 1)) (by' l (i + 2))

theorem endB_cases (p b0 b1 b2 : Nat) : (endB p b0 b1 b2 = 2 ∧ b0 = 13 ∧ b1 = 10) ∨ (endB p b0 b1 b2 = 1 ∧ b0 = 13 ∧ b1 ≠ 10) ∨ (endB p b0 b1 b2 = 0 ∧ b0 = 10 ∧ p = 13) ∨ (endB p b0 b1 b2 = 1 ∧ b0 = 10 ∧ p ≠ 13) ∨
    (endB p b0 b1 b2 = 2 ∧ b0 = 194 ∧ b1 = 133) ∨ (endB p b0 b1 b2 = 3 ∧ b0 = 226 ∧ b1 = 128 ∧ (b2 = 168 ∨ b2 = 169)) ∨
    (endB p b0 b1 b2 = 0 ∧ b0 ≠ 13 ∧ b0 ≠ 10 ∧ ¬ (b0 = 194 ∧ b1 = 133) ∧ ¬ (b0 = 226 ∧ b1 = 128 ∧ (b2 = 168 ∨ b2 = 169))) := by
  unfold endB
  split
  · split
    · exact .inl ⟨rfl, ‹_›, ‹_›⟩
    · exact .inr (.inl ⟨rfl, ‹_›, ‹_›⟩)
  · split
    · split
      · exact .inr (.inr (.inl ⟨rfl, ‹_›, ‹_›⟩))
      · exact .inr (.inr (.inr (.inl ⟨rfl, ‹_›, ‹_›⟩)))
    · split
      · rename_i h; exact .inr (.inr (.inr (.inr (.inl ⟨rfl, h.1, h.2⟩))))
      · split
        · rename_i h; exact .inr (.inr (.inr (.inr (.inr (.inl ⟨rfl, h.1, h.2.1, h.2.2⟩)))))
        · exact .inr (.inr (.inr (.inr (.inr (.inr ⟨rfl, ‹_›, ‹_›, ‹_›, ‹_›⟩)))))

theorem need_two {b0 b1 : Nat} (h : need b0 b1 = 3) : (b0 = 224 ∧ 160 ≤ b1 ∧ b1 ≤ 191) ∨ (225 ≤ b0 ∧ b0 ≤ 239 ∧ 128 ≤ b1 ∧ b1 ≤ 191) := by
  unfold need at h
  split at h
  · omega
  · split at h
    · omega
    · split at h
      · omega
      · split at h <;> omega
theorem need_four {b0 b1 : Nat} (h : need b0 b1 = 4) : (b0 = 240 ∧ 144 ≤ b1 ∧ b1 ≤ 191) ∨ (241 ≤ b0 ∧ b0 ≤ 244 ∧ 128 ≤ b1 ∧ b1 ≤ 191) := by
  unfold need at h
  split at h
  · omega
  · split at h
    · omega
    · split at h
      · omega
      · split at h <;> omega

theorem num_cases (b0 b1 b2 b3 : Nat) (h0 : b0 < 256) : (wd b0 b1 b2 b3 = 1 ∧ b0 < 128 ∧ num (wd b0 b1 b2 b3) b0 b1 b2 b3 = b0) ∨
    (wd b0 b1 b2 b3 = 2 ∧ 194 ≤ b0 ∧ b0 ≤ 223 ∧ Co b1 ∧ num (wd b0 b1 b2 b3) b0 b1 b2 b3 = (b0 - 192) * 64 + (b1 - 128)) ∨
    (wd b0 b1 b2 b3 = 3 ∧ ((b0 = 224 ∧ 160 ≤ b1 ∧ b1 ≤ 191) ∨ (225 ≤ b0 ∧ b0 ≤ 239 ∧ 128 ≤ b1 ∧ b1 ≤ 191)) ∧ Co b2 ∧ num (wd b0 b1 b2 b3) b0 b1 b2 b3 = (b0 - 224) * 4096 + (b1 - 128) * 64 + (b2 - 128)) ∨
    (wd b0 b1 b2 b3 = 4 ∧ 240 ≤ b0 ∧ 65536 ≤ num (wd b0 b1 b2 b3) b0 b1 b2 b3) ∨
    (wd b0 b1 b2 b3 = 0 ∧ 128 ≤ b0 ∧ num (wd b0 b1 b2 b3) b0 b1 b2 b3 = 65533) := by
  unfold num
  rcases wd_cases b0 b1 b2 b3 with g | g | g | g | g
  · left; rw [g.1]; exact ⟨rfl, g.2.2, rfl⟩
  · right; left; rw [g.1]
    obtain ⟨_, _, g1, g2, g3⟩ := g
    have g4 := g3
    unfold Co at g4
    refine ⟨rfl, g1, g2, g3, ?_⟩
    rw [if_neg (by decide), if_pos rfl]; omega
  · right; right; left; rw [g.1]
    have hn := need_two g.2.1
    have hc : Co b2 := g.2.2.2.2.2
    have g4 := hc
    unfold Co at g4
    refine ⟨rfl, hn, hc, ?_⟩
    rw [if_neg (by decide), if_neg (by decide), if_pos rfl]; omega
  · right; right; right; left; rw [g.1]
    have hn := need_four g.2.1
    refine ⟨rfl, by omega, ?_⟩
    rw [if_neg (by decide), if_neg (by decide), if_neg (by decide), if_pos rfl]; omega
  · right; right; right; right; rw [g.1]
    refine ⟨rfl, ?_, by rw [if_neg (by decide), if_neg (by decide), if_neg (by decide), if_neg (by decide)]⟩
    rcases need_cases b0 b1 with h | h | h | h | h
    · exfalso
      have := g.1
      unfold wd at this
      rw [if_pos h.1] at this
      omega
    all_goals omega

/-- Which runes are line ends, or a part of one. -/
def endR4 (r : Nat) : Bool := decide (r = 10 ∨ r = 13 ∨ r = 133 ∨ r = 8232 ∨ r = 8233)

theorem runes_end (l : List UInt8) : (rune l = 10 ↔ by' l 0 = 10) ∧ (rune l = 13 ↔ by' l 0 = 13) ∧ (rune l = 133 ↔ by' l 0 = 194 ∧ by' l 1 = 133) ∧
    ((rune l = 8232 ∨ rune l = 8233) ↔ by' l 0 = 226 ∧ by' l 1 = 128 ∧ (by' l 2 = 168 ∨ by' l 2 = 169)) ∧
    (by' l 0 = 10 → cw l = 1) ∧ (by' l 0 = 13 → cw l = 1) ∧ (by' l 0 = 194 ∧ by' l 1 = 133 → cw l = 2) ∧ (by' l 0 = 226 ∧ by' l 1 = 128 ∧ (by' l 2 = 168 ∨ by' l 2 = 169) → cw l = 3) := by
  have h0 := by'_lt l 0
  have key := num_cases (by' l 0) (by' l 1) (by' l 2) (by' l 3) h0
  have hw : need 194 133 = 2 := by decide
  have hw3 : need 226 128 = 3 := by decide
  have k2 : by' l 0 = 194 ∧ by' l 1 = 133 → W l = 2 := fun h => by
    unfold W wd; rw [h.1, h.2, hw, if_neg (by decide), if_pos rfl]
  have k3 : by' l 0 = 226 ∧ by' l 1 = 128 ∧ (by' l 2 = 168 ∨ by' l 2 = 169) → W l = 3 := fun h => by
    unfold W wd; rw [h.1, h.2.1, hw3, if_neg (by decide), if_neg (by decide), if_pos (by omega)]
  have k1 : by' l 0 < 128 → W l = 1 := fun h => by
    unfold W wd need; rw [if_pos h, if_pos rfl]
  unfold cw rune
  rw [← W] at key
  simp only [Co] at key
  generalize W l = w at *
  generalize num w (by' l 0) (by' l 1) (by' l 2) (by' l 3) = r at *
  generalize by' l 0 = b0 at *
  generalize by' l 1 = b1 at *
  generalize by' l 2 = b2 at *
  refine ⟨?_, ?_, ?_, ?_, ?_, ?_, ?_, ?_⟩
  · constructor
    · intro h; omega
    · intro h; have := k1 (by omega); omega
  · constructor
    · intro h; omega
    · intro h; have := k1 (by omega); omega
  · constructor
    · intro h; omega
    · intro h; have := k2 h; omega
  · constructor
    · intro h; omega
    · intro h; have := k3 h; omega
  · intro h; have := k1 (by omega); rw [this, if_neg (by decide)]
  · intro h; have := k1 (by omega); rw [this, if_neg (by decide)]
  · intro h; rw [k2 h, if_neg (by decide)]
  · intro h; rw [k3 h, if_neg (by decide)]

/-- The line end at a place, told by the character there, the byte ahead and the byte behind. -/
theorem endW_rune (l : List UInt8) (i : Nat) : endW l i = if endR4 (rune (l.drop i)) = false then 0 else if rune (l.drop i) = 10 ∧ pv l i = 13 then 0 else
    if rune (l.drop i) = 13 ∧ by' l (i + 1) = 10 then 2 else cw (l.drop i) := by
  obtain ⟨r1, r2, r3, r4, c1, c2, c3, c4⟩ := runes_end (l.drop i)
  simp only [by'_drop, Nat.add_zero] at r1 r2 r3 r4 c1 c2 c3 c4
  unfold endW
  generalize rune (l.drop i) = r at *
  generalize cw (l.drop i) = c at *
  generalize by' l i = b0 at *
  generalize by' l (i + 1) = b1 at *
  generalize by' l (i + 2) = b2 at *
  generalize pv l i = p at *
  have hf : ∀ x, (x = 10 ∨ x = 13 ∨ x = 133 ∨ x = 8232 ∨ x = 8233) → ¬ (endR4 x = false) := fun x h => by unfold endR4; rw [decide_eq_false_iff_not]; exact fun k => k h
  rcases endB_cases p b0 b1 b2 with ⟨e, h1, h2⟩ | ⟨e, h1, h2⟩ | ⟨e, h1, h2⟩ | ⟨e, h1, h2⟩ | ⟨e, h1, h2⟩ | ⟨e, h1, h2⟩ | ⟨e, h1, h2, h3, h4⟩
  · have hr := r2.2 h1
    rw [e, if_neg (hf _ (by omega)), if_neg (by omega), if_pos ⟨hr, h2⟩]
  · have hr := r2.2 h1
    have hc := c2 h1
    rw [e, if_neg (hf _ (by omega)), if_neg (by omega), if_neg (fun h => h2 h.2), hc]
  · have hr := r1.2 h1
    rw [e, if_neg (hf _ (by omega)), if_pos ⟨hr, h2⟩]
  · have hr := r1.2 h1
    have hc := c1 h1
    rw [e, if_neg (hf _ (by omega)), if_neg (fun h => h2 h.2), if_neg (by omega), hc]
  · have hr := r3.2 ⟨h1, h2⟩
    have hc := c3 ⟨h1, h2⟩
    rw [e, if_neg (hf _ (by omega)), if_neg (by omega), if_neg (by omega), hc]
  · have hr := r4.2 ⟨h1, h2⟩
    have hc := c4 ⟨h1, h2⟩
    rw [e, if_neg (hf _ (by omega)), if_neg (by omega), if_neg (by omega), hc]
  · have hz : endR4 r = false := by
      unfold endR4
      rw [decide_eq_false_iff_not]
      rintro (h | h | h | h | h)
      · exact h2 (r1.1 h)
      · exact h1 (r2.1 h)
      · exact h3 (r3.1 h)
      · exact h4 (r4.1 (.inl h))
      · exact h4 (r4.1 (.inr h))
    rw [e, if_pos hz]

theorem endW_le (l : List UInt8) (i : Nat) : i + endW l i ≤ max i l.length := by
  have h : ∀ k, by' l k ≠ 0 → k < l.length := fun k hk => by
    by_cases h : k < l.length
    · exact h
    · exact absurd (by'_beyond l k (by omega)) hk
  unfold endW
  rcases endB_cases (pv l i) (by' l i) (by' l (i + 1)) (by' l (i + 2)) with ⟨e, h1, h2⟩ | ⟨e, h1, h2⟩ | ⟨e, h1, h2⟩ | ⟨e, h1, h2⟩ | ⟨e, h1, h2⟩ | ⟨e, h1, h2, h3⟩ | ⟨e, _⟩
  · have := h (i + 1) (by omega); omega
  · have := h i (by omega); omega
  · omega
  · have := h i (by omega); omega
  · have := h (i + 1) (by omega); omega
  · have := h (i + 2) (by omega); omega
  · omega
theorem endW_lt {l : List UInt8} {i : Nat} (h : endW l i ≠ 0) : i < l.length := by
  have := endW_le l i
  by_cases hi : i < l.length
  · exact hi
  · omega
theorem endW_end {l : List UInt8} {i : Nat} (h : endW l i ≠ 0) : i + endW l i ≤ l.length := by
  have := endW_le l i
  have := endW_lt h
  omega
theorem endW_le3 (l : List UInt8) (i : Nat) : endW l i ≤ 3 := by
  unfold endW
  rcases endB_cases (pv l i) (by' l i) (by' l (i + 1)) (by' l (i + 2)) with ⟨e, h1, h2⟩ | ⟨e, h1, h2⟩ | ⟨e, h1, h2⟩ | ⟨e, h1, h2⟩ | ⟨e, h1, h2⟩ | ⟨e, h1, h2, h3⟩ | ⟨e, _⟩ <;> omega
/-- A line end begins where a character begins. -/
theorem endW_st {l : List UInt8} {i : Nat} (h : endW l i ≠ 0) : St l i := by
  refine St_of_not_co l i (endW_lt h) ?_
  unfold endW at h
  unfold Co
  rcases endB_cases (pv l i) (by' l i) (by' l (i + 1)) (by' l (i + 2)) with ⟨e, h1, h2⟩ | ⟨e, h1, h2⟩ | ⟨e, h1, h2⟩ | ⟨e, h1, h2⟩ | ⟨e, h1, h2⟩ | ⟨e, h1, h2, h3⟩ | ⟨e, _⟩ <;> omega
/-- Within a line end none begins. -/
theorem endW_within {l : List UInt8} {i j : Nat} (h1 : i < j) (h2 : j < i + endW l i) : endW l j = 0 := by
  have hpv : j = i + 1 → pv l j = by' l i := fun e => by subst e; unfold pv; rw [if_neg (by omega)]; rfl
  have hj : j = i + 1 ∨ j = i + 2 := by have := endW_le3 l i; omega
  have hq : endW l j = endB (pv l j) (by' l j) (by' l (j + 1)) (by' l (j + 2)) := rfl
  unfold endW at h2
  rcases endB_cases (pv l i) (by' l i) (by' l (i + 1)) (by' l (i + 2)) with ⟨e, g1, g2⟩ | ⟨e, g1, g2⟩ | ⟨e, g1, g2⟩ | ⟨e, g1, g2⟩ | ⟨e, g1, g2⟩ | ⟨e, g1, g2, g3⟩ | ⟨e, _⟩
  all_goals first | omega | skip
  · have e1 : j = i + 1 := by omega
    rw [hq, hpv e1, e1, g1, g2]; rfl
  · have e1 : j = i + 1 := by omega
    rw [hq, e1, g2]; rfl
  · rcases hj with e1 | e1
    · rw [hq, e1, g2]; rfl
    · rcases g3 with g3 | g3 <;> (rw [hq, e1, g3]; rfl)

/-- The places at which line ends begin, of those below one. -/
def endsTo (l : List UInt8) (n : Nat) : List Nat := (List.range n).filter (fun i => decide (endW l i ≠ 0))
def stp (l : List UInt8) (st : Nat × List (Nat × Nat × Nat)) (p : Nat) : Nat × List (Nat × Nat × Nat) := (p + endW l p, st.2 ++ [(st.1, p, endW l p)])
/-- Where the line that is under way began, and the lines that are over, when the line ends below a place have been met. -/
def sofar (l : List UInt8) (n : Nat) : Nat × List (Nat × Nat × Nat) := (endsTo l n).foldl (stp l) (0, [])
/-- The lines: from, to, how wide the end is. -/
def Ls (l : List UInt8) : List (Nat × Nat × Nat) := (sofar l l.length).2 ++ [((sofar l l.length).1, l.length, 0)]

theorem sofar_zero (l : List UInt8) : sofar l 0 = (0, []) := rfl
theorem endsTo_succ (l : List UInt8) (n : Nat) : endsTo l (n + 1) = endsTo l n ++ (if endW l n ≠ 0 then [n] else []) := by
  unfold endsTo
  rw [List.range_succ, List.filter_append]
  congr 1
  by_cases h : endW l n ≠ 0 <;> simp [h]
theorem sofar_no {l : List UInt8} {n : Nat} (h : endW l n = 0) : sofar l (n + 1) = sofar l n := by
  unfold sofar; rw [endsTo_succ, if_neg (by omega), List.append_nil]
theorem sofar_yes {l : List UInt8} {n : Nat} (h : endW l n ≠ 0) : sofar l (n + 1) = stp l (sofar l n) n := by
  unfold sofar; rw [endsTo_succ, if_pos h, List.foldl_append]; rfl
theorem sofar_skip {l : List UInt8} (d : Nat) : ∀ n, (∀ j, n ≤ j → j < n + d → endW l j = 0) → sofar l (n + d) = sofar l n := by
  induction d with
  | zero => intro n _; rfl
  | succ d ih =>
    intro n h
    rw [← Nat.add_assoc, sofar_no (h (n + d) (by omega) (by omega))]
    exact ih n fun j h1 h2 => h j h1 (by omega)
/-- Over a character. -/
theorem sofar_char {l : List UInt8} {p : Nat} (hp : St l p) : sofar l (p + cw (l.drop p)) = if endW l p = 0 then sofar l p else stp l (sofar l p) p := by
  have h1 := cw_pos (l.drop p)
  have hs : sofar l (p + 1 + (cw (l.drop p) - 1)) = sofar l (p + 1) := sofar_skip _ _ fun j h1 h2 => by
    by_cases h : endW l j = 0
    · exact h
    · have := St_two (endW_st h) hp (by omega)
      omega
  rw [show p + cw (l.drop p) = p + 1 + (cw (l.drop p) - 1) by omega, hs]
  split
  · exact sofar_no ‹_›
  · exact sofar_yes ‹_›
/-- Over a line end. -/
theorem sofar_end {l : List UInt8} {p : Nat} (hp : endW l p ≠ 0) : sofar l (p + endW l p) = stp l (sofar l p) p := by
  have hs : sofar l (p + 1 + (endW l p - 1)) = sofar l (p + 1) := sofar_skip _ _ fun j h1 h2 => endW_within (i := p) (by omega) (by omega)
  rw [show p + endW l p = p + 1 + (endW l p - 1) by omega, hs]
  exact sofar_yes hp
theorem sofar_pre (l : List UInt8) (n : Nat) : ∀ d, (sofar l n).2 <+: (sofar l (n + d)).2 := by
  intro d
  induction d with
  | zero => exact List.prefix_refl _
  | succ d ih =>
    rw [← Nat.add_assoc]
    by_cases h : endW l (n + d) = 0
    · rw [sofar_no h]; exact ih
    · rw [sofar_yes h]; exact ih.trans (List.prefix_append _ _)
theorem sofar_Ls {l : List UInt8} {n : Nat} (h : n ≤ l.length) : (sofar l n).2 <+: Ls l := by
  unfold Ls
  have := sofar_pre l n (l.length - n)
  rw [show n + (l.length - n) = l.length by omega] at this
  exact this.trans (List.prefix_append _ _)
theorem sofar_inv (l : List UInt8) (n : Nat) : (∀ j, n ≤ j → endW l j ≠ 0 → (sofar l n).1 ≤ j) ∧ (sofar l n).1 ≤ l.length ∧ (∀ x ∈ (sofar l n).2, x.1 ≤ x.2.1 ∧ x.2.1 + x.2.2 ≤ l.length ∧ x.2.2 = endW l x.2.1 ∧ x.2.2 ≠ 0) := by
  induction n with
  | zero => rw [sofar_zero]; simp
  | succ n ih =>
    by_cases h : endW l n = 0
    · rw [sofar_no h]; exact ⟨fun j h1 h2 => ih.1 j (by omega) h2, ih.2⟩
    · rw [sofar_yes h]
      refine ⟨fun j h1 h2 => ?_, endW_end h, fun x hx => ?_⟩
      · by_cases hj : j < n + endW l n
        · exact absurd (endW_within (by omega) hj) h2
        · simp only [stp]; omega
      · simp only [stp, List.mem_append, List.mem_singleton] at hx
        rcases hx with hx | hx
        · exact ih.2.2 x hx
        · subst hx
          exact ⟨ih.1 n (Nat.le_refl _) h, endW_end h, rfl, h⟩
theorem Ls_mem {l : List UInt8} {x : Nat × Nat × Nat} (h : x ∈ Ls l) : x.1 ≤ x.2.1 ∧ x.2.1 + x.2.2 ≤ l.length := by
  unfold Ls at h
  rcases List.mem_append.1 h with h | h
  · have := (sofar_inv l l.length).2.2 x h; exact ⟨this.1, this.2.1⟩
  · rw [List.mem_singleton] at h
    subst h
    exact ⟨(sofar_inv l l.length).2.1, by simp⟩
theorem Ls_pos (l : List UInt8) : 0 < (Ls l).length := by unfold Ls; simp
theorem sofar_len (l : List UInt8) (n : Nat) : (sofar l n).2.length ≤ n := by
  induction n with
  | zero => rw [sofar_zero]; simp
  | succ n ih =>
    by_cases h : endW l n = 0
    · rw [sofar_no h]; omega
    · rw [sofar_yes h]; simp [stp]; omega
theorem Ls_len (l : List UInt8) : (Ls l).length ≤ l.length + 1 := by have := sofar_len l l.length; unfold Ls; simp; omega
end Go.Proofs.YtaljllbfedfpoaaGreatDoor
namespace Go.Proofs.YtaljllbfedfpoaaGreatDoor
set_option linter.unusedVariables false

/-- Each line begins where the one ahead of it ends; what is under way begins where the last one ends. -/
def Chn (out : List (Nat × Nat × Nat)) (fr : Nat) : Prop :=
  (out = [] → fr = 0) ∧ (∀ y, out.getLast? = some y → fr = y.2.1 + y.2.2) ∧ (∀ k x, out[k]? = some x → (k = 0 → x.1 = 0) ∧ ∀ j y, j + 1 = k → out[j]? = some y → x.1 = y.2.1 + y.2.2)

theorem Chn.snoc {out : List (Nat × Nat × Nat)} {fr p e : Nat} (h : Chn out fr) : Chn (out ++ [(fr, p, e)]) (p + e) := by
  refine ⟨fun h0 => by simp at h0, fun y hy => ?_, fun k x hx => ?_⟩
  · simp at hy; subst hy; rfl
  · by_cases hk : k < out.length
    · rw [List.getElem?_append_left hk] at hx
      obtain ⟨h1, h2⟩ := h.2.2 k x hx
      refine ⟨h1, fun j y hj hy => ?_⟩
      rw [List.getElem?_append_left (by omega)] at hy
      exact h2 j y hj hy
    · rw [List.getElem?_append_right (by omega)] at hx
      have hk2 : k = out.length := by
        have := (List.getElem?_eq_some_iff.1 hx).1
        simp at this
        omega
      subst hk2
      simp at hx
      subst hx
      refine ⟨fun h0 => h.1 (List.eq_nil_of_length_eq_zero h0), fun j y hj hy => ?_⟩
      rw [List.getElem?_append_left (by omega)] at hy
      refine h.2.1 y ?_
      rw [List.getLast?_eq_getElem?, show out.length - 1 = j by omega]
      exact hy
theorem sofar_chn (l : List UInt8) (n : Nat) : Chn (sofar l n).2 (sofar l n).1 := by
  induction n with
  | zero => rw [sofar_zero]; exact ⟨fun _ => rfl, fun y h => by simp at h, fun k x h => by simp at h⟩
  | succ n ih =>
    by_cases h : endW l n = 0
    · rw [sofar_no h]; exact ih
    · rw [sofar_yes h]; exact ih.snoc
theorem Ls_chn (l : List UInt8) : Chn (Ls l) l.length := by
  unfold Ls
  exact (sofar_chn l l.length).snoc (p := l.length) (e := 0)
theorem Ls_first {l : List UInt8} {x : Nat × Nat × Nat} (h : (Ls l)[0]? = some x) : x.1 = 0 := ((Ls_chn l).2.2 0 x h).1 rfl
theorem Ls_next {l : List UInt8} {k : Nat} {x y : Nat × Nat × Nat} (hy : (Ls l)[k]? = some y) (hx : (Ls l)[k + 1]? = some x) : x.1 = y.2.1 + y.2.2 := ((Ls_chn l).2.2 (k + 1) x hx).2 k y rfl hy
/-- A line's end is at most where a later line begins. -/
theorem Ls_rise {l : List UInt8} {j k : Nat} {x y : Nat × Nat × Nat} (hy : (Ls l)[j]? = some y) (hx : (Ls l)[k]? = some x) (h : j < k) : y.2.1 + y.2.2 ≤ x.1 := by
  obtain ⟨d, rfl⟩ : ∃ d, k = j + 1 + d := ⟨k - j - 1, by omega⟩
  clear h
  induction d generalizing x with
  | zero => rw [Ls_next hy hx]; exact Nat.le_refl _
  | succ d ih =>
    have hlt : j + 1 + d < (Ls l).length := by have := (List.getElem?_eq_some_iff.1 hx).1; omega
    have hz : (Ls l)[j + 1 + d]? = some (Ls l)[j + 1 + d] := List.getElem?_eq_getElem hlt
    have h1 := ih hz
    have h2 := Ls_next hz hx
    have h3 := Ls_mem (List.getElem_mem hlt)
    omega
/-- A line whose forerunners end at or ahead of a place begins at or ahead of it. -/
theorem Ls_from_le {l : List UInt8} {k i : Nat} {x : Nat × Nat × Nat} (hx : (Ls l)[k]? = some x) (h : ∀ j y, j < k → (Ls l)[j]? = some y → y.2.1 + y.2.2 ≤ i) : x.1 ≤ i := by
  cases k with
  | zero => rw [Ls_first hx]; omega
  | succ k =>
    have hlt : k < (Ls l).length := by have := (List.getElem?_eq_some_iff.1 hx).1; omega
    have hz : (Ls l)[k]? = some (Ls l)[k] := List.getElem?_eq_getElem hlt
    rw [Ls_next hz hx]
    exact h k _ (by omega) hz
end Go.Proofs.YtaljllbfedfpoaaGreatDoor
namespace Go.Proofs.YtaljllbfedfpoaaGreatDoor
open Go.RowKit Go.Shelf
set_option linter.unusedVariables false

/-- A line without its end. -/
def lnT (s : ByteArray) (x : Nat × Nat × Nat) : ByteArray := s.extract x.1 x.2.1
/-- What is told of so many lines: those that say something, by their numbers. -/
def told (s : ByteArray) (pre : List (Nat × Nat × Nat)) : List (Nat × ByteArray) := (pre.zipIdx 1).filterMap fun y => if saysV (lnT s y.1) = true then some (y.2, lnT s y.1) else none
theorem told_nil (s : ByteArray) : told s [] = [] := rfl
theorem told_app (s : ByteArray) (pre t : List (Nat × Nat × Nat)) : told s (pre ++ t) = told s pre ++ (t.zipIdx (1 + pre.length)).filterMap (fun y => if saysV (lnT s y.1) = true then some (y.2, lnT s y.1) else none) := by
  unfold told
  rw [List.zipIdx_append, List.filterMap_append, Nat.add_comm]
theorem told_yes {s : ByteArray} {pre : List (Nat × Nat × Nat)} {x : Nat × Nat × Nat} (h : saysV (lnT s x) = true) : told s (pre ++ [x]) = told s pre ++ [(pre.length + 1, lnT s x)] := by
  rw [told_app]
  simp [h, Nat.add_comm]
theorem told_no {s : ByteArray} {pre : List (Nat × Nat × Nat)} {x : Nat × Nat × Nat} (h : saysV (lnT s x) = false) : told s (pre ++ [x]) = told s pre := by
  rw [told_app]
  simp [h]
theorem told_pre {s : ByteArray} {pre xs : List (Nat × Nat × Nat)} (h : pre <+: xs) : told s pre <+: told s xs := by
  obtain ⟨t, rfl⟩ := h
  rw [told_app]
  exact List.prefix_append _ _
theorem told_len (s : ByteArray) (pre : List (Nat × Nat × Nat)) : (told s pre).length ≤ pre.length := by
  unfold told
  have := List.length_filterMap_le (fun y : (Nat × Nat × Nat) × Nat => if saysV (lnT s y.1) = true then some (y.2, lnT s y.1) else none) (pre.zipIdx 1)
  simpa using this
theorem told_mem {s : ByteArray} {pre : List (Nat × Nat × Nat)} {y : Nat × ByteArray} (h : y ∈ told s pre) : y.1 ≤ pre.length := by
  unfold told at h
  obtain ⟨⟨x, i⟩, hx, he⟩ := List.mem_filterMap.1 h
  have hi := List.mem_zipIdx hx
  simp only at he hi
  split at he
  · cases he
    show i ≤ _
    omega
  · cases he
/-- What is told of a script. -/
def SLs (s : ByteArray) : List (Nat × ByteArray) := told s (Ls (bl s))
def encS (y : Nat × ByteArray) : Array Value := #[.int .i64 (y.1 : Int), .string y.2]
end Go.Proofs.YtaljllbfedfpoaaGreatDoor
namespace Go.Proofs.YtaljllbfedfpoaaGreatDoor
open Go.RowKit Go.Shelf
set_option linter.unusedVariables false
attribute [local go_sem] Oper.semAt_some

/-- A block of cells of a type that the loop's side holds. -/
def Held (H : TypeId → Prop) (o : Obj) : Prop := ∃ c t fr, o = .cells c t fr ∧ H t

/-- What the iterator's side does: blocks below B, and those that are held, lie as they lay. -/
def Sub (H : TypeId → Prop) (B : Nat) (W W' : World) : Prop :=
  (W'.os = W.os ∧ W'.tape = W.tape ∧ W'.output = W.output ∧ W.heap.size ≤ W'.heap.size) ∧ ∀ k o, W.heap[k]? = some o → (k < B ∨ Held H o) → W'.heap[k]? = some o
/-- What the loop's side does in a round: blocks of N, and those from B on that are not held, lie as they lay. -/
def Kp (H : TypeId → Prop) (N : Nat → Prop) (B : Nat) (W W' : World) : Prop :=
  (W'.os = W.os ∧ W'.tape = W.tape ∧ W'.output = W.output ∧ W.heap.size ≤ W'.heap.size) ∧ ∀ k o, W.heap[k]? = some o → (N k ∨ (B ≤ k ∧ ¬ Held H o)) → W'.heap[k]? = some o
def Stab {β : Type} (H : TypeId → Prop) (B : Nat) (J : β → World → Prop) : Prop := ∀ s W W', J s W → Sub H B W W' → J s W'

theorem Sub.refl (H : TypeId → Prop) (B : Nat) (W : World) : Sub H B W W := ⟨⟨rfl, rfl, rfl, Nat.le_refl _⟩, fun _ _ h _ => h⟩
theorem Sub.trans {H : TypeId → Prop} {B : Nat} {A C D : World} (h : Sub H B A C) (k : Sub H B C D) : Sub H B A D :=
  ⟨⟨k.1.1.trans h.1.1, k.1.2.1.trans h.1.2.1, k.1.2.2.1.trans h.1.2.2.1, Nat.le_trans h.1.2.2.2 k.1.2.2.2⟩, fun i o hi ho => k.2 i o (h.2 i o hi ho) ho⟩
theorem Sub.down {H : TypeId → Prop} {B B' : Nat} {A C : World} (h : Sub H B A C) (hB : B' ≤ B) : Sub H B' A C :=
  ⟨h.1, fun i o hi ho => h.2 i o hi (ho.imp (fun h => by omega) id)⟩
theorem Kp.refl (H : TypeId → Prop) (N : Nat → Prop) (B : Nat) (W : World) : Kp H N B W W := ⟨⟨rfl, rfl, rfl, Nat.le_refl _⟩, fun _ _ h _ => h⟩
theorem Kp.trans {H : TypeId → Prop} {N : Nat → Prop} {B : Nat} {A C D : World} (h : Kp H N B A C) (k : Kp H N B C D) : Kp H N B A D :=
  ⟨⟨k.1.1.trans h.1.1, k.1.2.1.trans h.1.2.1, k.1.2.2.1.trans h.1.2.2.1, Nat.le_trans h.1.2.2.2 k.1.2.2.2⟩, fun i o hi ho => k.2 i o (h.2 i o hi ho) ho⟩
theorem Kp.up {H : TypeId → Prop} {N : Nat → Prop} {B B' : Nat} {A C : World} (h : Kp H N B A C) (hB : B ≤ B') : Kp H N B' A C :=
  ⟨h.1, fun i o hi ho => h.2 i o hi (ho.imp id fun h => ⟨by omega, h.2⟩)⟩
/-- What leaves all that there was as it was is both. -/
theorem Sub.of_below {H : TypeId → Prop} {B : Nat} {A C : World} (h : Below A.heap.size A C) : Sub H B A C :=
  ⟨⟨h.os, h.tape, h.output, h.size⟩, fun k o hk _ => (h.block k (Array.getElem?_eq_some_iff.1 hk).1).trans hk⟩
theorem Kp.of_below {H : TypeId → Prop} {N : Nat → Prop} {B : Nat} {A C : World} (h : Below A.heap.size A C) : Kp H N B A C :=
  ⟨⟨h.os, h.tape, h.output, h.size⟩, fun k o hk _ => (h.block k (Array.getElem?_eq_some_iff.1 hk).1).trans hk⟩
theorem Sub.alloc {H : TypeId → Prop} {B : Nat} (W : World) (o : Obj) : Sub H B W (W.alloc o) := Sub.of_below ((Below.refl _ W).alloc (Nat.le_refl _) _)
theorem Kp.alloc {H : TypeId → Prop} {N : Nat → Prop} {B : Nat} (W : World) (o : Obj) : Kp H N B W (W.alloc o) := Kp.of_below ((Below.refl _ W).alloc (Nat.le_refl _) _)
theorem Sub.put {H : TypeId → Prop} {B l : Nat} {W : World} {o o' : Obj} (h : W.heap[l]? = some o) (hB : B ≤ l) (ho : ¬ Held H o) : Sub H B W (W.putObj l o') := by
  have hg := grownBy_putObj' W l o'
  refine ⟨⟨hg.os, hg.tape, hg.output, hg.size⟩, fun k o2 hk hc => ?_⟩
  refine (hg.block k (Array.getElem?_eq_some_iff.1 hk).1 (fun e => ?_)).trans hk
  cases e
  rw [h] at hk
  cases hk
  rcases hc with h1 | h1
  · omega
  · exact ho h1
theorem Kp.put {H : TypeId → Prop} {N : Nat → Prop} {B l : Nat} {W : World} {o o' : Obj} (h : W.heap[l]? = some o) (hn : ¬ N l) (hB : l < B ∨ Held H o) : Kp H N B W (W.putObj l o') := by
  have hg := grownBy_putObj' W l o'
  refine ⟨⟨hg.os, hg.tape, hg.output, hg.size⟩, fun k o2 hk hc => ?_⟩
  refine (hg.block k (Array.getElem?_eq_some_iff.1 hk).1 (fun e => ?_)).trans hk
  cases e
  rw [h] at hk
  cases hk
  rcases hc with h1 | h1
  · exact hn h1
  · rcases hB with h2 | h2
    · omega
    · exact h1.2 h2
theorem Sub.grown {H : TypeId → Prop} {B : Nat} {W W' : World} {row : Option Nat} (hg : W.grownBy W' row) (hr : ∀ k, row = some k → B ≤ k ∧ ∃ o, W.heap[k]? = some o ∧ ¬ Held H o) : Sub H B W W' := by
  refine ⟨⟨hg.os, hg.tape, hg.output, hg.size⟩, fun k o2 hk hc => ?_⟩
  refine (hg.block k (Array.getElem?_eq_some_iff.1 hk).1 (fun e => ?_)).trans hk
  obtain ⟨h1, o, ho, h2⟩ := hr k e.symm
  rw [ho] at hk
  cases hk
  rcases hc with h3 | h3
  · omega
  · exact h2 h3
theorem Kp.grown {H : TypeId → Prop} {N : Nat → Prop} {B : Nat} {W W' : World} {row : Option Nat} (hg : W.grownBy W' row) (hr : ∀ k, row = some k → ¬ N k ∧ (k < B ∨ ∃ o, W.heap[k]? = some o ∧ Held H o)) : Kp H N B W W' := by
  refine ⟨⟨hg.os, hg.tape, hg.output, hg.size⟩, fun k o2 hk hc => ?_⟩
  refine (hg.block k (Array.getElem?_eq_some_iff.1 hk).1 (fun e => ?_)).trans hk
  obtain ⟨h1, h2⟩ := hr k e.symm
  rcases hc with h3 | h3
  · exact h1 h3
  · rcases h2 with h2 | ⟨o, ho, h2⟩
    · omega
    · rw [ho] at hk; cases hk; exact h3.2 h2
theorem Sub.set {H : TypeId → Prop} {B b : Nat} {W : World} {t : TypeId} {v : Value} (u : Value) (h : Boxed W b t v) (hB : B ≤ b) (ht : ¬ H t) : Sub H B W (W.setCell ⟨b, 0, none⟩ u) :=
  Sub.grown (grownBy_setCell' W b u) fun k e => by
    cases e
    exact ⟨hB, _, h, fun ⟨c, t', fr, e, hh⟩ => by cases e; exact ht hh⟩
theorem Kp.set {H : TypeId → Prop} {N : Nat → Prop} {B b : Nat} {W : World} (u : Value) (hn : ¬ N b) (hB : b < B) : Kp H N B W (W.setCell ⟨b, 0, none⟩ u) :=
  Kp.grown (grownBy_setCell' W b u) fun k e => by cases e; exact ⟨hn, .inl hB⟩
theorem not_held {H : TypeId → Prop} {o : Obj} (h : o.isCells = false) : ¬ Held H o := fun ⟨c, t, fr, e, _⟩ => by subst e; cases h

theorem Stab.alloc {β : Type} {H : TypeId → Prop} {B : Nat} {J : β → World → Prop} (h : Stab H B J) {s : β} {W : World} (o : Obj) (hJ : J s W) : J s (W.alloc o) := h s _ _ hJ (Sub.alloc W o)
theorem Stab.put {β : Type} {H : TypeId → Prop} {B l : Nat} {J : β → World → Prop} (h : Stab H B J) {s : β} {W : World} {o : Obj} (o' : Obj) (hJ : J s W) (hB : B ≤ l) (hl : W.heap[l]? = some o) (ho : o.isCells = false) : J s (W.putObj l o') :=
  h s _ _ hJ (Sub.put hl hB (not_held ho))
theorem Stab.up {β : Type} {H : TypeId → Prop} {B B' : Nat} {J : β → World → Prop} (h : Stab H B J) (hB : B ≤ B') : Stab H B' J := fun s W W' hJ hs => h s W W' hJ (hs.down hB)
theorem Stab.and {β : Type} {H : TypeId → Prop} {B : Nat} {J K : β → World → Prop} (h : Stab H B J) (k : Stab H B K) : Stab H B (fun s W => J s W ∧ K s W) := fun s W W' hJ hs => ⟨h s W W' hJ.1 hs, k s W W' hJ.2 hs⟩
theorem Stab.pure {β : Type} {H : TypeId → Prop} {B : Nat} (p : β → Prop) : Stab H B (fun s (_ : World) => p s) := fun s W W' hJ _ => hJ
theorem Stab.boxed {β : Type} {H : TypeId → Prop} {B b : Nat} (t : TypeId) (f : β → Value) (hb : b < B) : Stab H B (fun s W => Boxed W b t (f s)) := fun s W W' hJ hs => hs.2 b _ hJ (.inl hb)
theorem Stab.box {β : Type} {H : TypeId → Prop} {B b : Nat} (t : TypeId) (v : Value) (hb : b < B) : Stab H B (fun (_ : β) W => Boxed W b t v) := fun s W W' hJ hs => hs.2 b _ hJ (.inl hb)
theorem Stab.below {β : Type} {H : TypeId → Prop} {B n : Nat} {w : World} (hn : n ≤ B) (hnw : n ≤ w.heap.size) : Stab H B (fun (_ : β) W => Below n w W) := fun s W W' hJ hs =>
  hJ.trans ⟨hs.1.1, hs.1.2.1, hs.1.2.2.1, hs.1.2.2.2, fun k hk => by
    have hlt : k < W.heap.size := by have := hJ.size; omega
    rw [Array.getElem?_eq_getElem hlt]
    exact hs.2 k _ (Array.getElem?_eq_getElem hlt) (.inl (by omega))⟩
theorem Stab.row {β : Type} {H : TypeId → Prop} {B base : Nat} (e : TypeId) (size : Nat) (v : Value) (n : β → Nat) (xs : β → List Value) (he : H e) : Stab H B (fun s W => World.ownsRow W base e size v (n s) (xs s)) := fun s W W' hJ hs => by
  refine ⟨hJ.1, ?_⟩
  rcases hJ.2 with h | ⟨g, cap, cur, hv, hb, hg, r⟩
  · exact .inl h
  · exact .inr ⟨g, cap, cur, hv, hb, hs.2 g _ hg (.inr ⟨_, _, _, rfl, he⟩), r⟩
theorem Stab.cell {β : Type} {H : TypeId → Prop} {B b : Nat} (v : Value) (hb : b < B) : Stab H B (fun (_ : β) W => World.cell? W ⟨b, 0, none⟩ = some v) := fun s W W' hJ hs => by
  have hlt := World.block_lt_of_cell? W _ hJ
  have h1 : W'.heap[b]? = W.heap[b]? := by
    rw [Array.getElem?_eq_getElem (show b < W.heap.size from hlt)]
    exact hs.2 b _ (Array.getElem?_eq_getElem hlt) (.inl hb)
  exact (World.cell?_of_block h1).trans hJ
theorem Kp.cell {H : TypeId → Prop} {N : Nat → Prop} {B b : Nat} {W W' : World} {v : Value} (h : Kp H N B W W') (hb : N b) (hc : W.cell? ⟨b, 0, none⟩ = some v) : W'.cell? ⟨b, 0, none⟩ = some v := by
  have hlt := World.block_lt_of_cell? W _ hc
  have h1 : W'.heap[b]? = W.heap[b]? := by
    rw [Array.getElem?_eq_getElem (show b < W.heap.size from hlt)]
    exact h.2 b _ (Array.getElem?_eq_getElem hlt) (.inl hb)
  exact (World.cell?_of_block h1).trans hc
theorem Kp.boxed {H : TypeId → Prop} {N : Nat → Prop} {B b : Nat} {W W' : World} {t : TypeId} {v : Value} (h : Kp H N B W W') (hb : B ≤ b) (ht : ¬ H t) (hc : Boxed W b t v) : Boxed W' b t v :=
  h.2 b _ hc (.inr ⟨hb, fun ⟨c, t', fr, e, hh⟩ => by cases e; exact ht hh⟩)
theorem Stab.ex {β γ : Type} {H : TypeId → Prop} {B : Nat} {J : γ → β → World → Prop} (h : ∀ c, Stab H B (J c)) : Stab H B (fun s W => ∃ c, J c s W) := fun s W W' ⟨c, hc⟩ hs => ⟨c, h c s W W' hc hs⟩
theorem Stab.comp {β γ : Type} {H : TypeId → Prop} {B : Nat} {J : β → World → Prop} (h : Stab H B J) (f : γ → β) : Stab H B (fun s W => J (f s) W) := fun s W W' hJ hs => h (f s) W W' hJ hs

/-- How a round may be left. -/
def postX {α : Type} (H : TypeId → Prop) (N : Nat → Prop) (B : Nat) (I : List α → World → Prop) (Ix : Code → List α → World → Prop) (xs : List α) (W : World) : Exit → Act → World → Prop
  | .normal, _, W' => Kp H N B W W' ∧ I xs W'
  | .ret, _, W' => Kp H N B W W' ∧ Ix .ret xs W'
  | .exit id, _, W' => Kp H N B W W' ∧ Ix (.exit id) xs W'
  | .goto t, _, W' => Kp H N B W W' ∧ Ix (.goto t) xs W'
  | .panic _, _, _ => False
  | .outgrown, _, _ => False

/-- The iterator tells these in their order, till a round says no more. -/
def SeqX {α : Type} (H : TypeId → Prop) (N : Nat → Prop) (gf : Nat) (lb : Array Value) (encs : α → Array Value) (xs : List α) (w : World) : Prop :=
  ∀ (l : Nat) (J Jx : List α → World → Prop) (W : World), Below w.heap.size w W → Stab H W.heap.size J → Stab H W.heap.size Jx →
    (∀ pre x W1, J pre W1 → pre ++ [x] <+: xs → YieldAt Fence.wide 1 Tryz.prog l (encs x) W1 fun e W' =>
      (e = .returned (.bool true) ∧ J (pre ++ [x]) W' ∧ Kp H N W.heap.size W1 W') ∨ (e = .returned (.bool false) ∧ Jx (pre ++ [x]) W' ∧ Kp H N W.heap.size W1 W')) →
    J [] W →
    CallsIn Fence.wide 2 Tryz.prog gf (#[.func (.yield l) #[] #[]] ++ lb) W fun e W' => (∃ v, e = .returned v) ∧ (J xs W' ∨ ∃ pre, pre <+: xs ∧ Jx pre W')

theorem yield_any {m : Nat} (m' l' : Nat) {l : Nat} {args : Array Value} {W : World} {R : Ending → World → Prop} (h : YieldAt Fence.wide m Tryz.prog l args W R) : YieldAt (Fence.wide.inRound l') m' Tryz.prog l args W R := by
  obtain ⟨fn, tmps, assign, body, hy, hf, hR⟩ := h
  exact ⟨fn, tmps, assign, body, hy, hf, fun c cs _ => hR c cs (fun d hd => by cases hd)⟩
theorem yield_out {m : Nat} (m' : Nat) {l : Nat} {args : Array Value} {W : World} {R : Ending → World → Prop} (h : YieldAt Fence.wide m Tryz.prog l args W R) : YieldAt Fence.wide m' Tryz.prog l args W R := by
  obtain ⟨fn, tmps, assign, body, hy, hf, hR⟩ := h
  exact ⟨fn, tmps, assign, body, hy, hf, fun c cs _ => hR c cs (fun d hd => by cases hd)⟩

theorem inR {l' m f : Nat} {args : Array Value} {w : World} {R : Ending → World → Prop} (h : Calls Tryz.prog f args w R) : CallsIn (Fence.wide.inRound l') m Tryz.prog f args w R := (callsIn_wide (n := m)).2 h
theorem inW {m f : Nat} {args : Array Value} {w : World} {R : Ending → World → Prop} (h : Calls Tryz.prog f args w R) : CallsIn Fence.wide m Tryz.prog f args w R := (callsIn_wide (n := m)).2 h

/-- What lies in the two blocks that the loop lays for itself. -/
def Books (r : Loop) (s : Nat) (W : World) : Prop := W.heap[s + 1]? = some (.loop r) ∧ W.heap[s]? = some (.deferred (some []))
theorem Books.put {r r' : Loop} {s : Nat} {W : World} (h : Books r s W) : Books r' s (W.putObj (s + 1) (.loop r')) :=
  ⟨World.putObj_heap_same (Array.getElem?_eq_some_iff.1 h.1).1, (World.putObj_heap_other (by omega)).trans h.2⟩
theorem Books.keeps {H : TypeId → Prop} {N : Nat → Prop} {r : Loop} {s : Nat} {W W' : World} (h : Books r s W) (hk : Kp H N s W W') : Books r s W' :=
  ⟨hk.2 _ _ h.1 (.inr ⟨by omega, not_held rfl⟩), hk.2 _ _ h.2 (.inr ⟨Nat.le_refl _, not_held rfl⟩)⟩

/-- The law of a loop over such an iterator, whose rounds may lay memory ahead of their bodies. -/
theorem rangeY {α : Type} {g : Operand} {ps : Array Tmp} {assign body : Code} {Q : Exit → Act → World → Prop} {a : Act} {w : World} {gf : Nat} {lb : Array Value} {encs : α → Array Value}
    (hg : a.eval g = .func (.func gf) #[] lb) (eg : ∀ args w, (callFunc gf args).run Tryz.prog w = .ok (.enter gf args) w) {H : TypeId → Prop} {N : Nat → Prop} {xs : List α} {w0 : World} (hseq : SeqX H N gf lb encs xs w0)
    (hb0 : Below w0.heap.size w0 w) (hN : ∀ k, N k → k < w.heap.size) (hps : ∀ x, (encs x).size = ps.size)
    (I : List α → World → Prop) (Ix : Code → List α → World → Prop) (hI : Stab H w.heap.size I) (hIx : ∀ c, Stab H w.heap.size (Ix c)) (h0 : I [] w) (Ax : α → Act → World → Prop) (hAx : ∀ x a' W k o o', Ax x a' W → W.heap[k]? = some o → o.isCells = false → Ax x a' (W.putObj k o'))
    (hassign : ∀ (l : Nat) (pre : List α) (x : α) (W : World) (K : Act → World → Prop), I pre W → pre ++ [x] <+: xs → (∀ a' W', Kp H N w.heap.size W W' → I pre W' → Ax x a' W' → K a' W') →
      assign.wpIn (Fence.wide.inRound l) 1 Tryz.prog (Exit.then K (fun _ _ _ => False)) { tmps := (ps.zip (encs x)).foldl (fun t (p, v) => t.setIfInBounds p v) a.tmps, defers := [] } W)
    (hbody : ∀ (l : Nat) (pre : List α) (x : α) (a' : Act) (W : World), I pre W → Ax x a' W → pre ++ [x] <+: xs → body.wpIn (Fence.wide.inRound l) 1 Tryz.prog (postX H N w.heap.size I Ix (pre ++ [x]) W) a' W)
    (hdone : ∀ (D : Nat) (W : World), w.heap.size ≤ D → I xs W → W.heap[D]? = some (.deferred (some [])) → Q .normal { a with defers := { target := .collected D, args := #[] } :: a.defers } W)
    (hstop : ∀ (D : Nat) (c : Code) (pre : List α) (W : World), w.heap.size ≤ D → pre <+: xs → Ix c pre W → W.heap[D]? = some (.deferred (some [])) → c.wpIn Fence.wide 3 Tryz.prog Q { a with defers := { target := .collected D, args := #[] } :: a.defers } W) :
    (Code.rangeFunc g ps assign body).wpIn Fence.wide 3 Tryz.prog Q a w := by
  refine wpIn_rangeFunc fun fn hfn => ?_
  generalize hS : w.heap.size = S at *
  have hrec : ∃ rec : LoopState → Option Code → Loop, ∀ st pe, rec st pe = { state := st, pending := pe, fn := fn, tmps := a.tmps, params := ps, assign := assign, body := body, defers := S } := ⟨fun st pe => _, fun _ _ => rfl⟩
  obtain ⟨rec, hrec⟩ := hrec
  have hbooks : Books (rec .ready none) S ((w.alloc (.deferred (some []))).alloc (.loop (rec .ready none))) := by
    constructor
    · have h := World.alloc_heap_new (w.alloc (.deferred (some []))) (.loop (rec .ready none))
      rwa [World.size_alloc, hS] at h
    · rw [← hS]; exact (Below.heap_alloc _ _ _ (by simp)).trans (World.alloc_heap_new w _)
  have hsz : ((w.alloc (.deferred (some []))).alloc (.loop (rec .ready none))).heap.size = S + 2 := by simp [hS]
  have hI1 : I [] ((w.alloc (.deferred (some []))).alloc (.loop (rec .ready none))) := hI.alloc _ (hI.alloc _ h0)
  have hb1 : Below w0.heap.size w0 ((w.alloc (.deferred (some []))).alloc (.loop (rec .ready none))) :=
    hb0.trans ((((Below.refl _ w).alloc (Nat.le_refl _) _).alloc (by simp) _).mono hb0.size)
  have henter : (Instr.enterLoop fn a.tmps ps assign body Fence.wide.round).run Tryz.prog w = .ok (S + 1, [{ target := .collected S, args := #[] }]) ((w.alloc (.deferred (some []))).alloc (.loop (rec .ready none))) := by
    rw [hrec, ← hS]; exact run_enterLoop_outer _ _ _ _ _
  generalize (w.alloc (.deferred (some []))).alloc (.loop (rec .ready none)) = W1 at *
  refine ⟨S + 1, _, W1, { target := .fn (.func gf) lb, args := #[.func (.yield (S + 1)) #[] #[]] }, W1, gf, #[.func (.yield (S + 1)) #[] #[]] ++ lb, W1, henter, ?_, fun _ _ => trivial, ?_, fun _ => (by omega), ?_⟩
  · simp only [resolve, hg]; simp [go_sem]
  · simp [invoke, go_sem, eg]
  have hbk2 : ∀ r A B, Sub H (S + 2) A B → Books r S A → Books r S B := fun r A B hs hb => ⟨hs.2 _ _ hb.1 (.inl (by omega)), hs.2 _ _ hb.2 (.inl (by omega))⟩
  refine (hseq (S + 1) (fun pre W => I pre W ∧ Books (rec .ready none) S W) (fun pre W => ∃ c, Ix c pre W ∧ Books (rec .done (some c)) S W) W1 hb1 ?_ ?_ ?_ ⟨hI1, hbooks⟩).mono ?_
  · rw [hsz]
    exact fun s A B hs hgr => ⟨hI s A B hs.1 (hgr.down (by omega)), hbk2 _ _ _ hgr hs.2⟩
  · rw [hsz]
    rintro s A B ⟨c, hc, hbk⟩ hgr
    exact ⟨c, hIx c s A B hc (hgr.down (by omega)), hbk2 _ _ _ hgr hbk⟩
  · -- a round
    rintro pre x W ⟨hi, hbk⟩ hpx
    rw [hsz]
    have hy := run_yield (P := Tryz.prog) (args := encs x) hbk.1 (by rw [hrec]; exact hps x)
    rw [hrec] at hy
    refine ⟨fn, _, assign, body, hy, roundIn_of_wpIn hfn (hassign _ pre x W _ hi hpx ?_)⟩
    intro a' Wa hka hia hax
    have hbk0 := hbk
    replace hbk := hbk.keeps hka
    have hbeg := run_beginRound (P := Tryz.prog) hbk.1 (by rw [hrec])
    refine ⟨_, hbeg, ?_⟩
    have hbusy : Books { rec .ready none with state := .busy } S (Wa.putObj (S + 1) (.loop { rec .ready none with state := .busy })) := hbk.put
    have hkeep : Kp H N (S + 2) W (Wa.putObj (S + 1) (.loop { rec .ready none with state := .busy })) := (hka.up (by omega)).trans (Kp.put hbk.1 (fun h => by have := hN _ h; omega) (.inl (by omega)))
    refine wpIn_mono (hbody _ pre x a' _ (hI.put _ hia (by omega) hbk.1 rfl) (hAx _ _ _ _ _ _ hax hbk.1 rfl) hpx) ?_
    have close : ∀ (jump : Option Code) (W3 : World), Books { rec .ready none with state := .busy } S W3 →
        (Instr.endRound (S + 1) jump).run Tryz.prog W3 = .ok (.bool jump.isNone) (W3.putObj (S + 1) (.loop (rec (if jump.isNone then .ready else .done) jump))) := fun jump W3 hb3 => by
      have h := run_endRound (P := Tryz.prog) jump hb3.1
      rw [hrec] at h ⊢
      exact h
    rintro e a3 W3 hp
    cases e with
    | normal =>
      obtain ⟨hk3, hi3⟩ := hp
      have hb3 := hbusy.keeps hk3
      exact ⟨_, _, close none W3 hb3, .inl ⟨rfl, ⟨hI.put _ hi3 (by omega) hb3.1 rfl, hb3.put⟩, (hkeep.trans (hk3.up (by omega))).trans (Kp.put hb3.1 (fun h => by have := hN _ h; omega) (.inl (by omega)))⟩⟩
    | ret =>
      obtain ⟨hk3, hi3⟩ := hp
      have hb3 := hbusy.keeps hk3
      exact ⟨_, _, close (some .ret) W3 hb3, .inr ⟨rfl, ⟨.ret, (hIx _).put _ hi3 (by omega) hb3.1 rfl, hb3.put⟩, (hkeep.trans (hk3.up (by omega))).trans (Kp.put hb3.1 (fun h => by have := hN _ h; omega) (.inl (by omega)))⟩⟩
    | exit id =>
      obtain ⟨hk3, hi3⟩ := hp
      have hb3 := hbusy.keeps hk3
      exact ⟨_, _, close (some (.exit id)) W3 hb3, .inr ⟨rfl, ⟨.exit id, (hIx _).put _ hi3 (by omega) hb3.1 rfl, hb3.put⟩, (hkeep.trans (hk3.up (by omega))).trans (Kp.put hb3.1 (fun h => by have := hN _ h; omega) (.inl (by omega)))⟩⟩
    | goto t =>
      obtain ⟨hk3, hi3⟩ := hp
      have hb3 := hbusy.keeps hk3
      exact ⟨_, _, close (some (.goto t)) W3 hb3, .inr ⟨rfl, ⟨.goto t, (hIx _).put _ hi3 (by omega) hb3.1 rfl, hb3.put⟩, (hkeep.trans (hk3.up (by omega))).trans (Kp.put hb3.1 (fun h => by have := hN _ h; omega) (.inl (by omega)))⟩⟩
    | panic ch => exact hp.elim
    | outgrown => exact hp.elim
  · rintro e W2 ⟨⟨v, rfl⟩, hend⟩
    rcases hend with ⟨hi, hbk⟩ | ⟨pre, hpre, c, hi, hbk⟩
    · have h := run_endLoop (P := Tryz.prog) hbk.1 (by rw [hrec]; simp)
      rw [hrec] at h
      exact ⟨none, _, h, hdone S _ (Nat.le_refl _) (hI.put _ hi (by omega) hbk.1 rfl) ((World.putObj_heap_other (by omega)).trans hbk.2)⟩
    · have h := run_endLoop (P := Tryz.prog) hbk.1 (by rw [hrec]; simp)
      rw [hrec] at h
      exact ⟨some c, _, h, hstop S c pre _ (Nat.le_refl _) hpre ((hIx c).put _ hi (by omega) hbk.1 rfl) ((World.putObj_heap_other (by omega)).trans hbk.2)⟩
/-- The law of a loop over such an iterator. -/
theorem rangeX {α : Type} {g : Operand} {ps : Array Tmp} {assign body : Code} {Q : Exit → Act → World → Prop} {a : Act} {w : World} {gf : Nat} {lb : Array Value} {encs : α → Array Value}
    (hg : a.eval g = .func (.func gf) #[] lb) (eg : ∀ args w, (callFunc gf args).run Tryz.prog w = .ok (.enter gf args) w) {H : TypeId → Prop} {N : Nat → Prop} {xs : List α} {w0 : World} (hseq : SeqX H N gf lb encs xs w0)
    (hb0 : Below w0.heap.size w0 w) (hN : ∀ k, N k → k < w.heap.size) (hps : ∀ x, (encs x).size = ps.size)
    (I : List α → World → Prop) (Ix : Code → List α → World → Prop) (hI : Stab H w.heap.size I) (hIx : ∀ c, Stab H w.heap.size (Ix c)) (h0 : I [] w) {a₁ : α → Act}
    (hassign : ∀ (l : Nat) (x : α) (W : World) (K : Act → World → Prop), K (a₁ x) W →
      assign.wpIn (Fence.wide.inRound l) 1 Tryz.prog (Exit.then K (fun _ _ _ => False)) { tmps := (ps.zip (encs x)).foldl (fun t (p, v) => t.setIfInBounds p v) a.tmps, defers := [] } W)
    (hbody : ∀ (l : Nat) (pre : List α) (x : α) (W : World), I pre W → pre ++ [x] <+: xs → body.wpIn (Fence.wide.inRound l) 1 Tryz.prog (postX H N w.heap.size I Ix (pre ++ [x]) W) (a₁ x) W)
    (hdone : ∀ (D : Nat) (W : World), w.heap.size ≤ D → I xs W → W.heap[D]? = some (.deferred (some [])) → Q .normal { a with defers := { target := .collected D, args := #[] } :: a.defers } W)
    (hstop : ∀ (D : Nat) (c : Code) (pre : List α) (W : World), w.heap.size ≤ D → pre <+: xs → Ix c pre W → W.heap[D]? = some (.deferred (some [])) → c.wpIn Fence.wide 3 Tryz.prog Q { a with defers := { target := .collected D, args := #[] } :: a.defers } W) :
    (Code.rangeFunc g ps assign body).wpIn Fence.wide 3 Tryz.prog Q a w :=
  rangeY hg eg hseq hb0 hN hps I Ix hI hIx h0 (fun x a' _ => a' = a₁ x) (fun _ _ _ _ _ _ h _ _ => h) (fun l pre x W K hi _ hK => hassign l x W K (hK _ _ (Kp.refl _ _ _ _) hi rfl)) (fun l pre x a' W hi e hp => by subst e; exact hbody l pre x W hi hp) hdone hstop

/-- The law of a loop over such an iterator, whose rounds lay a variable for what they are told. -/
theorem rangeP {α : Type} {g : Operand} {ps : Array Tmp} {assign body : Code} {Q : Exit → Act → World → Prop} {a : Act} {w : World} {gf : Nat} {lb : Array Value} {encs : α → Array Value}
    (hg : a.eval g = .func (.func gf) #[] lb) (eg : ∀ args w, (callFunc gf args).run Tryz.prog w = .ok (.enter gf args) w) {H : TypeId → Prop} {N : Nat → Prop} {xs : List α} {w0 : World} (hseq : SeqX H N gf lb encs xs w0)
    (hb0 : Below w0.heap.size w0 w) (hN : ∀ k, N k → k < w.heap.size) (hps : ∀ x, (encs x).size = ps.size)
    (I : List α → World → Prop) (Ix : Code → List α → World → Prop) (hI : Stab H w.heap.size I) (hIx : ∀ c, Stab H w.heap.size (Ix c)) (h0 : I [] w) (cells : α → Array Value) (ty : TypeId) {a₂ : α → World → Act}
    (hassign : ∀ (l : Nat) (x : α) (W : World) (K : Act → World → Prop), (∀ W', Below W.heap.size W W' → W'.heap[W.heap.size]? = some (.cells (cells x) ty (0, 0)) → K (a₂ x W) W') →
      assign.wpIn (Fence.wide.inRound l) 1 Tryz.prog (Exit.then K (fun _ _ _ => False)) { tmps := (ps.zip (encs x)).foldl (fun t (p, v) => t.setIfInBounds p v) a.tmps, defers := [] } W)
    (hbody : ∀ (l : Nat) (pre : List α) (x : α) (Wb W : World), I pre W → w.heap.size ≤ Wb.heap.size → W.heap[Wb.heap.size]? = some (.cells (cells x) ty (0, 0)) → pre ++ [x] <+: xs → body.wpIn (Fence.wide.inRound l) 1 Tryz.prog (postX H N w.heap.size I Ix (pre ++ [x]) W) (a₂ x Wb) W)
    (hdone : ∀ (D : Nat) (W : World), w.heap.size ≤ D → I xs W → W.heap[D]? = some (.deferred (some [])) → Q .normal { a with defers := { target := .collected D, args := #[] } :: a.defers } W)
    (hstop : ∀ (D : Nat) (c : Code) (pre : List α) (W : World), w.heap.size ≤ D → pre <+: xs → Ix c pre W → W.heap[D]? = some (.deferred (some [])) → c.wpIn Fence.wide 3 Tryz.prog Q { a with defers := { target := .collected D, args := #[] } :: a.defers } W) (hsize : ∀ s W, I s W → w.heap.size ≤ W.heap.size) :
    (Code.rangeFunc g ps assign body).wpIn Fence.wide 3 Tryz.prog Q a w :=
  rangeY hg eg hseq hb0 hN hps I Ix hI hIx h0 (fun x a' W' => ∃ Wb : World, a' = a₂ x Wb ∧ w.heap.size ≤ Wb.heap.size ∧ W'.heap[Wb.heap.size]? = some (.cells (cells x) ty (0, 0)))
    (fun x a' W k o o' h hk ho => by
      obtain ⟨Wb, e, h1, h2⟩ := h
      refine ⟨Wb, e, h1, ?_⟩
      refine (World.putObj_heap_other (fun e => ?_)).trans h2
      rw [← e, h2] at hk
      cases hk
      cases ho)
    (fun l pre x W K hi _ hK => hassign l x W K (fun W' hB hc => hK _ _ (Kp.of_below hB) (hI _ _ _ hi (Sub.of_below hB)) ⟨W, rfl, hsize _ _ hi, hc⟩))
    (fun l pre x a' W hi e hp => by obtain ⟨Wb, rfl, h1, h2⟩ := e; exact hbody l pre x Wb W hi h1 h2 hp) hdone hstop
end Go.Proofs.YtaljllbfedfpoaaGreatDoor
namespace Go.Proofs.YtaljllbfedfpoaaGreatDoor
open Go.RowKit Go.Shelf
set_option linter.unusedVariables false
attribute [local go_sem] Oper.semAt_some

theorem nxt_at {P : Program} (w : World) (k : Nat) (s : ByteArray) (pos : Nat) (ty : TypeId) (hk : w.heap[k]? = some (.stringIter s pos)) (h : pos < s.size) :
    (Instr.next (.pointer (some ⟨k, 0, none⟩)) true ty).run P w = .ok (.tuple #[.bool true, .int .i64 pos, .int .i32 (rune ((bl s).drop pos) : Nat)]) (w.iterAt k s (pos + cw ((bl s).drop pos))) := by
  rw [Lib.run_next_any_at w k s pos ty hk h, decode_eq s pos h]; rfl
theorem sub_iterAt {H : TypeId → Prop} {B k pos : Nat} {W : World} {s : ByteArray} (h : W.heap[k]? = some (.stringIter s pos)) (hB : B ≤ k) (pos' : Nat) : Sub H B W (W.iterAt k s pos') := by
  have hb := Lib.below_iterAt (Below.refl k W) (k := k) (Nat.le_refl _) s pos'
  refine ⟨⟨hb.os, hb.tape, hb.output, hb.size⟩, fun i o hi hc => ?_⟩
  by_cases e : i = k
  · subst e
    rw [h] at hi
    cases hi
    rcases hc with h1 | h1
    · omega
    · exact absurd h1 (not_held rfl)
  · rw [Lib.iterAt_other _ _ _ _ _ e]; exact hi
/-- What is told of a character: where it begins, and its rune. -/
def encC (e : Nat × Nat × Nat) : Array Value := #[.int .i64 (e.1 : Int), .int .i32 (e.2.1 : Int)]
theorem take_snoc {α : Type} {l : List α} {k : Nat} {e : α} (h : l[k]? = some e) : l.take k ++ [e] = l.take (k + 1) := by
  rw [List.take_add_one, h]; rfl
theorem take_pre {α : Type} (l : List α) (k : Nat) : l.take k <+: l := List.take_prefix _ _

set_option maxRecDepth 100000 in
set_option maxHeartbeats 1000000 in
theorem uall_x (H : TypeId → Prop) (N : Nat → Prop) (Bs : Nat) (s : ByteArray) (w : World) (hs : s.size ≤ 9223372036854775807) (hBs : Bs < w.heap.size) (cs : w.cell? ⟨Bs, 0, none⟩ = some (.string s)) :
    SeqX H N 101 #[.pointer (some ⟨Bs, 0, none⟩)] encC (Cs 0 (bl s)) w := fun l J Jx W hW hJ hJx hY h0 => by
  have cs' := (hW.cell (p := ⟨Bs, 0, none⟩) hBs).trans cs
  refine callsIn_of_wp Tryz.func101 rfl trivial ?_ rfl
  simp only [Tryz.ntmps101, List.size_toArray, List.length_cons, List.length_nil, Nat.reduceAdd, Nat.reduceSub, Array.replicate_succ, Array.replicate_zero, List.push_toArray, List.append_toArray, List.nil_append, List.cons_append]
  have hJ0 : J [] (W.iter s 0) := hJ.alloc _ h0
  have hit0 := World.iter_heap W s 0
  have HY := hide hY
  have H0 := hide hJ0
  have HT0 := hide hit0
  clear hY h0 hJ0 hit0
  gi_wp2
  clear cs cs'
  gi_loopw [] (fun wr => ∃ pos k : Nat, pos ≤ s.size ∧ Inv (bl s) pos k ∧ wr.heap[W.heap.size]? = some (.stringIter s pos) ∧ J ((Cs 0 (bl s)).take k) wr) (fun wr => s.size - wr.iterPos W.heap.size)
  case atStart => exact ⟨0, 0, by omega, Inv.start _, HT0.out, by simpa using H0.out⟩
  case round =>
    clear H0 HT0
    obtain ⟨pos, k, hps, hI, hit, hJk⟩ := hrel
    have HIT := hide hit
    by_cases hlt : pos < s.size
    · have hnx : ∀ ty, (Instr.next (.pointer (some ⟨W.heap.size, 0, none⟩)) true ty).run Tryz.prog wr = _ := fun ty => nxt_at wr W.heap.size s pos ty hit hlt
      have hh := hI.here (by rw [bl_len]; exact hlt)
      have hst := hI.step (by rw [bl_len]; exact hlt)
      have h1 := cw_pos ((bl s).drop pos)
      have h2 := cw_len _ (bl_drop_ne hlt)
      rw [List.length_drop, bl_len] at h2
      have hpre : (Cs 0 (bl s)).take k ++ [(pos, rune ((bl s).drop pos), cw ((bl s).drop pos))] = (Cs 0 (bl s)).take (k + 1) := take_snoc hh
      generalize hr : rune ((bl s).drop pos) = r at *
      generalize hc : cw ((bl s).drop pos) = c at *
      have hJ2 := hJ _ _ _ hJk (sub_iterAt hit (Nat.le_refl _) (pos + c))
      have hit2 := Lib.iterAt_heap wr W.heap.size s pos (pos + c) hit
      generalize wr.iterAt W.heap.size s (pos + c) = W2 at *
      obtain ⟨fn, tmps, assign, body, hy, hR⟩ := HY.out ((Cs 0 (bl s)).take k) (pos, r, c) W2 hJ2 (by rw [hpre]; exact take_pre _ _)
      simp only [encC] at hy
      have HST := hide hst
      have HP := hide hpre
      have HT2 := hide hit2
      have HR := hide hR
      clear HY hJk hJ2 hst hpre hit2 hit hI hh hr hc hR
      gi_wp2
      refine HR.out.mono ?_
      rintro e W3 (⟨rfl, hJ3, hK3⟩ | ⟨rfl, hJx3, hK3⟩)
      · have hit3 : W3.heap[W.heap.size]? = some (.stringIter s (pos + c)) := hK3.2 _ _ HT2.out (.inr ⟨Nat.le_refl _, not_held rfl⟩)
        have HT3 := hide hit3
        have HJ3 := hide hJ3
        clear hit3 hJ3 hK3 HR hy
        gi_wp2
        go_roundw
        case rel => exact ⟨pos + c, k + 1, by omega, HST.out, HT3.out, by rw [← HP.out]; exact HJ3.out⟩
        case measure =>
          have e1 : W3.iterPos W.heap.size = pos + c := iterPos_of HT3.out
          have e2 : wr.iterPos W.heap.size = pos := iterPos_of HIT.out
          rw [e1, e2]; omega
      · have HJ3 := hide hJx3
        clear hJx3 hK3 HR hy
        gi_wp2
        refine bodyPost_ret (results_none rfl _ _ _) rfl ?_
        exact ⟨⟨_, rfl⟩, .inr ⟨_, by rw [HP.out]; exact take_pre _ _, HJ3.out⟩⟩
    · have hnx : ∀ ty, (Instr.next (.pointer (some ⟨W.heap.size, 0, none⟩)) true ty).run Tryz.prog wr = _ := fun ty => Lib.run_next_end_at wr W.heap.size s pos ty hit hlt
      have hfin := hI.fin (by rw [bl_len]; omega)
      rw [hfin, List.take_length] at hJk
      have HJ := hide hJk
      clear hJk HY hit hI hfin
      gi_wp2
      go_end0
      exact ⟨⟨_, rfl⟩, .inl HJ.out⟩

theorem uall_in (s : ByteArray) (w : World) :
    CallsIn Fence.wide 2 Tryz.prog 90 #[.string s] w fun e w' => e = .returned (.func (.func 101) #[] #[.pointer (some ⟨w.heap.size, 0, none⟩)]) ∧ w' = w.alloc (.cells #[.string s] 9) := by
  refine callsIn_of_wp Tryz.func90 rfl trivial ?_ rfl
  simp only [Tryz.ntmps90, List.size_toArray, List.length_cons, List.length_nil, Nat.reduceAdd, Nat.reduceSub, Array.replicate_succ, Array.replicate_zero, List.push_toArray, List.append_toArray, List.nil_append, List.cons_append]
  gi_wp2
  go_ret
  exact ⟨rfl, rfl⟩
end Go.Proofs.YtaljllbfedfpoaaGreatDoor
namespace Go.Proofs.YtaljllbfedfpoaaGreatDoor
open Go.RowKit Go.Shelf
set_option linter.unusedVariables false

set_option maxHeartbeats 1000000 in
theorem ends_any (r : Nat) (w : World) : Calls Tryz.prog 91 #[.int .i32 (r : Int)] w fun e w' => e = .returned (.bool (endR4 r)) ∧ w' = w := by
  by_cases h1 : r = 10
  · subst h1
    go_enter Tryz.func91, Tryz.ntmps91
    go_wp2
    go_ret
    exact ⟨rfl, rfl⟩
  · by_cases h2 : r = 13
    · subst h2
      go_enter Tryz.func91, Tryz.ntmps91
      go_wp2
      go_ret
      exact ⟨rfl, rfl⟩
    · by_cases h3 : r = 133
      · subst h3
        go_enter Tryz.func91, Tryz.ntmps91
        go_wp2
        go_ret
        exact ⟨rfl, rfl⟩
      · by_cases h4 : r = 8232
        · subst h4
          go_enter Tryz.func91, Tryz.ntmps91
          go_wp2
          go_ret
          exact ⟨rfl, rfl⟩
        · by_cases h5 : r = 8233
          · subst h5
            go_enter Tryz.func91, Tryz.ntmps91
            go_wp2
            go_ret
            exact ⟨rfl, rfl⟩
          · have b1 : ((r : Int) == 10) = false := by simp; omega
            have b2 : ((r : Int) == 13) = false := by simp; omega
            have b3 : ((r : Int) == 133) = false := by simp; omega
            have b4 : ((r : Int) == 8232) = false := by simp; omega
            have b5 : ((r : Int) == 8233) = false := by simp; omega
            have HR : Hid (endR4 r = false) := by unfold endR4; rw [Hid, decide_eq_false_iff_not]; omega
            clear h1 h2 h3 h4 h5
            go_enter Tryz.func91, Tryz.ntmps91
            go_wp2
            go_ret
            exact ⟨ret_bool HR.out.symm, rfl⟩

theorem suffix_one (l : List UInt8) (b : UInt8) : Lib.hasSuffix l [b] = decide (l.getLast? = some b) := by
  unfold Lib.hasSuffix
  rw [Bool.eq_iff_iff, List.isSuffixOf_iff_suffix, decide_eq_true_eq]
  constructor
  · rintro ⟨t, rfl⟩; simp
  · intro h
    obtain ⟨ys, rfl⟩ := List.getLast?_eq_some_iff.1 h
    exact ⟨ys, rfl⟩
theorem prefix_one (l : List UInt8) (b : UInt8) : Lib.hasPrefix l [b] = decide (l[0]? = some b) := by
  unfold Lib.hasPrefix
  cases l with
  | nil => simp
  | cons a l =>
    by_cases h : b = a
    · subst h; simp
    · have h2 : ¬ (a = b) := fun e => h e.symm
      have h3 : (b == a) = false := by simpa using h
      simp [List.isPrefixOf, h2, h3]
/-- The byte ahead of a place is 0D. -/
theorem suffix_pv (s : ByteArray) (i : Nat) (hi : i ≤ s.size) : Lib.hasSuffix (s.extract 0 i).data.toList [13] = decide (pv (bl s) i = 13) := by
  rw [suffix_one]
  have h := bl_to s i
  unfold bl at h
  rw [h, Bool.eq_iff_iff, decide_eq_true_eq, decide_eq_true_eq]
  unfold pv
  have hl := bl_len s
  unfold bl at hl
  by_cases h0 : i = 0
  · subst h0; simp
  · rw [if_neg h0, List.getLast?_take, if_neg h0]
    have hlt : i - 1 < s.data.toList.length := by rw [hl]; omega
    unfold by' bl
    rw [List.getElem?_eq_getElem hlt]
    simp only [Option.some_or, Option.getD_some, Option.some.injEq]
    constructor
    · intro h; rw [h]; rfl
    · intro h; exact UInt8.toNat_inj.1 h
theorem prefix_nx (s : ByteArray) (i : Nat) : Lib.hasPrefix (s.extract i s.size).data.toList [10] = decide (by' (bl s) i = 10) := by
  rw [prefix_one]
  have h := bl_from s i
  unfold bl at h
  rw [h, Bool.eq_iff_iff, decide_eq_true_eq, decide_eq_true_eq, List.getElem?_drop]
  unfold by' bl
  simp only [Nat.add_zero]
  cases s.data.toList[i]? with
  | none => simp
  | some x =>
    simp only [Option.getD_some, Option.some.injEq]
    constructor
    · intro h; rw [h]; rfl
    · intro h; exact UInt8.toNat_inj.1 h

/-- The answer of End as a pair. -/
def endV (l : List UInt8) (i : Int) : Int × Bool := if 0 ≤ i ∧ i < (l.length : Int) then ((endW l i.toNat : Int), decide (endW l i.toNat ≠ 0)) else (0, false)
theorem ret_ib {a b : Int} {p q : Bool} (h : a = b) (k : p = q) : Ending.returned (.tuple #[.int .i64 a, .bool p]) = .returned (.tuple #[.int .i64 b, .bool q]) := by rw [h, k]

set_option maxHeartbeats 1000000 in
theorem end_in (s : ByteArray) (i : Nat) (w : World) (hi : i < s.size) (hs : s.size ≤ 9223372036854775807) :
    Calls Tryz.prog 92 #[.string s, .int .i64 (i : Int)] w fun e w' => e = .returned (.tuple #[.int .i64 (endW (bl s) i : Int), .bool (decide (endW (bl s) i ≠ 0))]) ∧ Below w.heap.size w w' := by
  have hne := bl_drop_ne hi
  have kf := fun w => first_any (s.extract i s.size) w (by simp; omega)
  have he := endW_rune (bl s) i
  have hsu := suffix_pv s i (by omega)
  have hpx := fun c => prefix_nx s (i + c)
  have hcl := cw_len _ hne
  rw [List.length_drop, bl_len] at hcl
  have hc1 := cw_pos ((bl s).drop i)
  have hc4 := cw_le4 ((bl s).drop i)
  have hc13 : rune ((bl s).drop i) = 13 → cw ((bl s).drop i) = 1 := fun h => by
    obtain ⟨_, r2, _, _, _, c2, _⟩ := runes_end ((bl s).drop i)
    exact c2 (r2.1 h)
  rw [bl_from, firstV_ne hne] at kf
  generalize rune ((bl s).drop i) = r at *
  generalize cw ((bl s).drop i) = c at *
  generalize endW (bl s) i = en at *
  generalize pv (bl s) i = p at *
  have hpx1 := hpx c
  clear hpx
  have hp1 : r = 13 → by' (bl s) (i + 1) = by' (bl s) (i + c) := fun h => by rw [hc13 h]
  generalize hb1 : by' (bl s) (i + c) = b1 at *
  clear hb1
  have ha1 : (i : Int) < (s.size : Int) := by omega
  have KF := hide kf
  have HE := hide he
  have HSU := hide hsu
  have HPX := hide hpx1
  have HP1 := hide hp1
  have H13 := hide hc13
  clear kf he hsu hpx1 hne hp1 hc13
  go_enter Tryz.func92, Tryz.ntmps92
  by_cases g1 : endR4 r = false
  · go_wp2_with (first | (go_at_call 40; refine (KF.out _).mono ?_; rintro e w1 ⟨rfl, hB1⟩) | (go_at_call 91; refine (ends_any r _).mono ?_; rintro e w2 ⟨rfl, rfl⟩))
    go_ret2
    have h := HE.out
    rw [if_pos g1] at h
    exact ⟨ret_ib (by rw [h]; rfl) (by rw [h]; rfl), hB1⟩
  · have g2 : endR4 r = true := by simpa using g1
    clear g1
    have ge : ¬ (endR4 r = false) := by rw [g2]; decide
    have GE := hide ge
    clear ge
    by_cases r1 : r = 10
    · have b1' : ((r : Int) == 10) = true := by simp [r1]
      have b2' : ((r : Int) == 13) = false := by simp [r1]
      have R1 := hide r1
      clear r1
      by_cases g3 : p = 13
      · have hq : decide (p = 13) = true := by simp [g3]
        have G3 := hide g3
        clear g3
        go_wp2_with (first | (go_at_call 40; refine (KF.out _).mono ?_; rintro e w1 ⟨rfl, hB1⟩) | (go_at_call 91; refine (ends_any r _).mono ?_; rintro e w2 ⟨rfl, rfl⟩) | (go_at_call 102; refine (hasSuffix_any _ _ _ (by simp; omega)).mono ?_; rintro e w2 ⟨he, rfl⟩; replace he := he.trans (congrArg (fun b => Ending.returned (.bool b)) HSU.out); subst he) | (go_at_call 103; refine (hasPrefix_any _ _ _).mono ?_; rintro e w2 ⟨he, rfl⟩; replace he := he.trans (congrArg (fun b => Ending.returned (.bool b)) HPX.out); subst he))
        go_ret2
        have h := HE.out
        rw [if_neg GE.out, if_pos ⟨R1.out, G3.out⟩] at h
        exact ⟨ret_ib (by rw [h]; rfl) (by rw [h]; rfl), hB1⟩
      · have hq : decide (p = 13) = false := by simp [g3]
        have G3 := hide g3
        clear g3
        go_wp2_with (first | (go_at_call 40; refine (KF.out _).mono ?_; rintro e w1 ⟨rfl, hB1⟩) | (go_at_call 91; refine (ends_any r _).mono ?_; rintro e w2 ⟨rfl, rfl⟩) | (go_at_call 102; refine (hasSuffix_any _ _ _ (by simp; omega)).mono ?_; rintro e w2 ⟨he, rfl⟩; replace he := he.trans (congrArg (fun b => Ending.returned (.bool b)) HSU.out); subst he) | (go_at_call 103; refine (hasPrefix_any _ _ _).mono ?_; rintro e w2 ⟨he, rfl⟩; replace he := he.trans (congrArg (fun b => Ending.returned (.bool b)) HPX.out); subst he))
        go_ret2
        have h := HE.out
        rw [if_neg GE.out, if_neg (fun k => G3.out k.2), if_neg (fun k => by have := R1.out; omega)] at h
        exact ⟨ret_ib (by rw [h]) (by rw [h]; simp; omega), hB1⟩
    · have b1' : ((r : Int) == 10) = false := by simp; omega
      have R1 := hide r1
      clear r1
      by_cases r2 : r = 13
      · have b2' : ((r : Int) == 13) = true := by simp [r2]
        have hc1' : c = 1 := H13.out r2
        have hbb := HP1.out r2
        have R2 := hide r2
        clear r2
        by_cases g3 : b1 = 10
        · have hq : decide (b1 = 10) = true := by simp [g3]
          have G3 := hide (hbb.trans g3)
          have HC := hide hc1'
          clear g3 hbb hc1'
          go_wp2_with (first | (go_at_call 40; refine (KF.out _).mono ?_; rintro e w1 ⟨rfl, hB1⟩) | (go_at_call 91; refine (ends_any r _).mono ?_; rintro e w2 ⟨rfl, rfl⟩) | (go_at_call 102; refine (hasSuffix_any _ _ _ (by simp; omega)).mono ?_; rintro e w2 ⟨he, rfl⟩; replace he := he.trans (congrArg (fun b => Ending.returned (.bool b)) HSU.out); subst he) | (go_at_call 103; refine (hasPrefix_any _ _ _).mono ?_; rintro e w2 ⟨he, rfl⟩; replace he := he.trans (congrArg (fun b => Ending.returned (.bool b)) HPX.out); subst he))
          go_ret2
          have h := HE.out
          rw [if_neg GE.out, if_neg (fun k => R1.out k.1), if_pos ⟨R2.out, G3.out⟩] at h
          exact ⟨ret_ib (by rw [h, HC.out]; rfl) (by rw [h]; rfl), hB1⟩
        · have hq : decide (b1 = 10) = false := by simp [g3]
          have G3 : Hid (¬ by' (bl s) (i + 1) = 10) := fun k => g3 (hbb.symm.trans k)
          have HC := hide hc1'
          clear g3 hbb hc1'
          go_wp2_with (first | (go_at_call 40; refine (KF.out _).mono ?_; rintro e w1 ⟨rfl, hB1⟩) | (go_at_call 91; refine (ends_any r _).mono ?_; rintro e w2 ⟨rfl, rfl⟩) | (go_at_call 102; refine (hasSuffix_any _ _ _ (by simp; omega)).mono ?_; rintro e w2 ⟨he, rfl⟩; replace he := he.trans (congrArg (fun b => Ending.returned (.bool b)) HSU.out); subst he) | (go_at_call 103; refine (hasPrefix_any _ _ _).mono ?_; rintro e w2 ⟨he, rfl⟩; replace he := he.trans (congrArg (fun b => Ending.returned (.bool b)) HPX.out); subst he))
          go_ret2
          have h := HE.out
          rw [if_neg GE.out, if_neg (fun k => R1.out k.1), if_neg (fun k => G3.out k.2)] at h
          exact ⟨ret_ib (by rw [h]) (by rw [h]; simp; omega), hB1⟩
      · have b2' : ((r : Int) == 13) = false := by simp; omega
        have R2 := hide r2
        clear r2
        go_wp2_with (first | (go_at_call 40; refine (KF.out _).mono ?_; rintro e w1 ⟨rfl, hB1⟩) | (go_at_call 91; refine (ends_any r _).mono ?_; rintro e w2 ⟨rfl, rfl⟩) | (go_at_call 102; refine (hasSuffix_any _ _ _ (by simp; omega)).mono ?_; rintro e w2 ⟨he, rfl⟩; replace he := he.trans (congrArg (fun b => Ending.returned (.bool b)) HSU.out); subst he) | (go_at_call 103; refine (hasPrefix_any _ _ _).mono ?_; rintro e w2 ⟨he, rfl⟩; replace he := he.trans (congrArg (fun b => Ending.returned (.bool b)) HPX.out); subst he))
        go_ret2
        have h := HE.out
        rw [if_neg GE.out, if_neg (fun k => R1.out k.1), if_neg (fun k => R2.out k.1)] at h
        exact ⟨ret_ib (by rw [h]) (by rw [h]; simp; omega), hB1⟩

theorem end_bad (s : ByteArray) (n : Int) (w : World) (hb : n < 0 ∨ (s.size : Int) ≤ n) :
    Calls Tryz.prog 92 #[.string s, .int .i64 n] w fun e w' => e = .returned (.tuple #[.int .i64 0, .bool false]) ∧ w' = w := by
  by_cases h : n < 0
  · clear hb
    go_enter Tryz.func92, Tryz.ntmps92
    go_wp2
    go_ret2
    exact ⟨rfl, rfl⟩
  · have h2 : (s.size : Int) ≤ n := by omega
    have h3 : 0 ≤ n := by omega
    clear hb h
    go_enter Tryz.func92, Tryz.ntmps92
    go_wp2
    go_ret2
    exact ⟨rfl, rfl⟩

theorem end_any (s : ByteArray) (n : Int) (w : World) (hs : s.size ≤ 9223372036854775807) :
    Calls Tryz.prog 92 #[.string s, .int .i64 n] w fun e w' => e = .returned (.tuple #[.int .i64 (endV (bl s) n).1, .bool (endV (bl s) n).2]) ∧ Below w.heap.size w w' := by
  by_cases h : 0 ≤ n ∧ n < (s.size : Int)
  · obtain ⟨i, rfl⟩ : ∃ i : Nat, n = (i : Int) := ⟨n.toNat, by omega⟩
    have e : endV (bl s) (i : Int) = ((endW (bl s) i : Int), decide (endW (bl s) i ≠ 0)) := by unfold endV; rw [bl_len, if_pos h, Int.toNat_natCast]
    rw [e]
    exact end_in s i w (by omega) hs
  · have e : endV (bl s) n = (0, false) := by unfold endV; rw [bl_len, if_neg h]
    rw [e]
    refine (end_bad s n w (by omega)).mono ?_
    rintro e w' ⟨rfl, rfl⟩
    exact ⟨rfl, Below.refl _ _⟩
end Go.Proofs.YtaljllbfedfpoaaGreatDoor
namespace Go.Proofs.YtaljllbfedfpoaaGreatDoor
open Go.RowKit Go.Shelf
set_option linter.unusedVariables false
attribute [local go_sem] Oper.semAt_some

theorem inv_pl (l : List UInt8) : ∀ k, k ≤ (Cs 0 l).length → Inv l (pl l k) k ∧ (k < (Cs 0 l).length → pl l k < l.length) := by
  intro k
  induction k with
  | zero =>
    intro _
    have h : pl l 0 = 0 := by
      by_cases hl : l = []
      · subst hl; rfl
      · unfold pl; rw [Cs_cons 0 l hl]; rfl
    rw [h]
    refine ⟨Inv.start l, fun h0 => ?_⟩
    have := Cs_len_le l
    omega
  | succ k ih =>
    intro hk
    obtain ⟨h1, h2⟩ := ih (by omega)
    have h3 := h2 (by omega)
    have h4 := h1.step h3
    by_cases hlt : pl l k + cw (l.drop (pl l k)) < l.length
    · rw [pl_here h4 hlt]; exact ⟨h4, fun _ => hlt⟩
    · have h5 := h4.fin (by omega)
      have h6 := cw_len _ (drop_ne h3)
      rw [List.length_drop] at h6
      rw [h5, pl_fin]
      refine ⟨?_, fun h => by omega⟩
      have : pl l k + cw (l.drop (pl l k)) = l.length := by omega
      rw [this, h5] at h4
      exact h4
/-- What a character that is told is, and what the lines so far are behind it. -/
theorem char_told {l : List UInt8} {pre : List (Nat × Nat × Nat)} {x : Nat × Nat × Nat} (h : pre ++ [x] <+: Cs 0 l) : ∃ p, p = pl l pre.length ∧ x = (p, rune (l.drop p), cw (l.drop p)) ∧ p < l.length ∧ St l p ∧
    sofar l (pl l (pre ++ [x]).length) = (if endW l p = 0 then sofar l p else stp l (sofar l p) p) := by
  have hl := h.length_le
  simp only [List.length_append, List.length_singleton] at hl
  have hx : (Cs 0 l)[pre.length]? = some x := by
    have h2 := List.prefix_iff_eq_take.1 h
    have h3 : (pre ++ [x])[pre.length]? = some x := by simp
    rw [h2, List.getElem?_take] at h3
    simp only [List.length_append, List.length_singleton] at h3
    rwa [if_pos (by omega)] at h3
  obtain ⟨h1, h2⟩ := inv_pl l pre.length (by omega)
  have h3 := h2 (by omega)
  have h4 := h1.here h3
  rw [h4] at hx
  have hst : St l (pl l pre.length) := ⟨_, List.mem_of_getElem? h4, rfl⟩
  refine ⟨_, rfl, (Option.some.inj hx).symm, h3, hst, ?_⟩
  rw [List.length_append, List.length_singleton]
  have h5 := h1.step h3
  have h6 : pl l (pre.length + 1) = pl l pre.length + cw (l.drop (pl l pre.length)) := by
    by_cases hlt : pl l pre.length + cw (l.drop (pl l pre.length)) < l.length
    · exact pl_here h5 hlt
    · have h7 := h5.fin (by omega)
      have h8 := cw_len _ (drop_ne h3)
      rw [List.length_drop] at h8
      rw [h7, pl_fin]; omega
  rw [h6, sofar_char hst]

theorem below_boxed {W W' : World} {b : Nat} {t : TypeId} {v : Value} (h : Below W.heap.size W W') (hb : Boxed W b t v) : Boxed W' b t v :=
  (h.block b (Array.getElem?_eq_some_iff.1 (show W.heap[b]? = _ from hb)).1).trans hb
/-- What is told of a line: its piece, and how wide its end is. -/
def encL (x : Nat × Nat × Nat) : Array Value := #[.agg #[.int .i64 (x.1 : Int), .int .i64 (x.2.1 : Int)], .int .i64 (x.2.2 : Int)]

set_option maxRecDepth 100000 in
set_option maxHeartbeats 2000000 in
theorem lall_x (H : TypeId → Prop) (N : Nat → Prop) (Bs : Nat) (s : ByteArray) (w : World) (hs : s.size ≤ 9223372036854775807) (hBs : N Bs) (hN : ∀ k, N k → k < w.heap.size) (cs : w.cell? ⟨Bs, 0, none⟩ = some (.string s))
    (hHi : ¬ H 3) (hHf : ¬ H 145) :
    SeqX H N 89 #[.pointer (some ⟨Bs, 0, none⟩)] encL (Ls (bl s)) w := fun l J Jx W hW hJ hJx hY h0 => by
  have hBlt := hN Bs hBs
  have cs' := (hW.cell (p := ⟨Bs, 0, none⟩) (by show Bs < _; omega)).trans cs
  have hsW := hW.size
  have hA : Below W.heap.size W ((W.alloc (.cells #[.func (.yield l) #[] #[]] 145)).alloc (.cells #[.int .i64 0] 3)) := ((Below.refl _ _).alloc (Nat.le_refl _) _).alloc (by simp) _
  have cs2 := (hA.cell (p := ⟨Bs, 0, none⟩) (by show Bs < _; omega)).trans cs'
  have HY := hide hY
  clear hY
  refine callsIn_wide.2 ((callsIn_wide (n := 3)).1 ?_)
  refine callsIn_of_wp_marks Tryz.func89 rfl trivial ?_ rfl
  simp only [Tryz.ntmps89, List.size_toArray, List.length_cons, List.length_nil, Nat.reduceAdd, Nat.reduceSub, Array.replicate_succ, Array.replicate_zero, List.push_toArray, List.append_toArray, List.nil_append, List.cons_append]
  gi_wp2
  refine wpIn_wide.2 (wp_scope_straight ((wpIn_wide (n := 3)).1 ?_))
  gi_wp2
  refine wpIn_label ?_
  gi_wp2_with (refine ⟨trivial, ?_⟩; gi_at_call 90; refine (uall_in s _).mono ?_; rintro e w' ⟨rfl, rfl⟩)
  have bY := ((Boxed.new W 145 (.func (.yield l) #[] #[])).alloc (.cells #[.int .i64 0] 3)).alloc (.cells #[.string s] 9)
  have bF := (Boxed.new (W.alloc (.cells #[.func (.yield l) #[] #[]] 145)) 3 (.int .i64 0)).alloc (.cells #[.string s] 9)
  have bS := Boxed.new ((W.alloc (.cells #[.func (.yield l) #[] #[]] 145)).alloc (.cells #[.int .i64 0] 3)) 9 (.string s)
  simp only [World.size_alloc] at bF bS
  have hB0 : Below W.heap.size W (((W.alloc (.cells #[.func (.yield l) #[] #[]] 145)).alloc (.cells #[.int .i64 0] 3)).alloc (.cells #[.string s] 9)) := (((Below.refl _ W).alloc (Nat.le_refl _) _).alloc (by simp) _).alloc (by simp; omega) _
  have hsz : (((W.alloc (.cells #[.func (.yield l) #[] #[]] 145)).alloc (.cells #[.int .i64 0] 3)).alloc (.cells #[.string s] 9)).heap.size = W.heap.size + 3 := by simp
  have hJ0 : J [] (((W.alloc (.cells #[.func (.yield l) #[] #[]] 145)).alloc (.cells #[.int .i64 0] 3)).alloc (.cells #[.string s] 9)) := hJ.alloc _ (hJ.alloc _ (hJ.alloc _ h0))
  obtain ⟨W0, hW0⟩ : ∃ W0, (((W.alloc (.cells #[.func (.yield l) #[] #[]] 145)).alloc (.cells #[.int .i64 0] 3)).alloc (.cells #[.string s] 9)) = W0 := ⟨_, rfl⟩
  rw [hW0] at bY bF bS hB0 hsz hJ0 ⊢
  clear hW0 cs2 hA
  have cs3 := (hB0.cell (p := ⟨Bs, 0, none⟩) (by show Bs < _; omega)).trans cs'
  have hpl0 : pl (bl s) 0 = 0 := by
    by_cases hl : bl s = []
    · rw [hl]; rfl
    · unfold pl; rw [Cs_cons 0 _ hl]; rfl
  apply rangeX (gf := 101) (lb := #[.pointer (some ⟨W.heap.size + 1 + 1, 0, none⟩)]) (encs := encC) rfl (enters_of Tryz.func101 (by kernel_rfl) rfl)
    (uall_x H N (W.heap.size + 1 + 1) s W0 hs (by omega) bS.cell) (Below.refl _ _) (fun k h => by have := hN k h; omega) (fun _ => rfl)
    (fun pre W' => (J (sofar (bl s) (pl (bl s) pre.length)).2 W' ∧ Boxed W' W.heap.size 145 (.func (.yield l) #[] #[])) ∧ (Boxed W' (W.heap.size + 1) 3 (.int .i64 ((sofar (bl s) (pl (bl s) pre.length)).1 : Nat)) ∧ W'.cell? ⟨Bs, 0, none⟩ = some (.string s)))
    (fun c pre W' => c = .ret ∧ ∃ p, p <+: Ls (bl s) ∧ Jx p W')
    (Stab.and (Stab.and ((hJ.up (by omega)).comp _) (Stab.box _ _ (by omega))) (Stab.and (Stab.boxed _ _ (by omega)) (Stab.cell _ (by omega))))
    (fun c => Stab.and (Stab.pure _) (fun s A B hs hg => by obtain ⟨p, hp, hx⟩ := hs; exact ⟨p, hp, hJx.up (show W.heap.size ≤ W0.heap.size by omega) p A B hx hg⟩))
    ⟨⟨by rw [show ([] : List (Nat × Nat × Nat)).length = 0 from rfl, hpl0, sofar_zero]; exact hJ0, bY⟩, by rw [show ([] : List (Nat × Nat × Nat)).length = 0 from rfl, hpl0, sofar_zero]; exact bF, cs3⟩
  case hassign =>
    intro l' x W' K hK
    simp only [encC]
    gi_wp2
    exact hK
  case hbody =>
    rintro l' pre x W' ⟨⟨hJ', hbY⟩, hbF, hcs⟩ hpx
    obtain ⟨p, hp, rfl, hplt, hst, hnext⟩ := char_told hpx
    rw [← hp] at hJ' hbF
    have hpn : p < s.size := by rw [bl_len] at hplt; exact hplt
    have he := endW_rune (bl s) p
    have hsl : (sofar (bl s) (p + 1)).2 <+: Ls (bl s) := sofar_Ls (by omega)
    have hfl := (sofar_inv (bl s) p).2.1
    have hee := @endW_end (bl s) p
    rw [bl_len] at hfl hee
    generalize hen : endW (bl s) p = en at *
    generalize hr : rune ((bl s).drop p) = r at *
    generalize cw ((bl s).drop p) = c at *
    obtain ⟨fr, hfr⟩ : ∃ fr, (sofar (bl s) p).1 = fr := ⟨_, rfl⟩
    obtain ⟨so, hso⟩ : ∃ so, (sofar (bl s) p).2 = so := ⟨_, rfl⟩
    rw [hfr] at hbF hfl
    rw [hso] at hJ'
    have HN := hide hnext
    have HPX := hide hpx
    have HE := hide he
    have HSL := hide hsl
    have HJ' := hide hJ'
    have HBY := hide hbY
    have HBF := hide hbF
    have HCS := hide hcs
    have HEN := hide hen
    have HFR := hide hfr
    have HSO := hide hso
    have HP := hide hp
    have HST := hide hst
    have hcF := hbF.cell
    have hcY := hbY.cell
    have hEnd : ∀ w, CallsIn (Fence.wide.inRound l') 0 Tryz.prog 92 #[.string s, .int .i64 (p : Int)] w fun e w' => e = .returned (.tuple #[.int .i64 (en : Int), .bool (decide (en ≠ 0))]) ∧ Below w.heap.size w w' := fun w => by
      have h := end_in s p w hpn hs
      rw [HEN.out] at h
      exact inR h
    have HEND := hide hEnd
    clear hnext hpx he hsl hJ' hbY hbF hen hfr hso hp hst hr hEnd
    by_cases g1 : endR4 r = false
    · gi_wp2_with (refine ⟨trivial, ?_⟩; gi_at_call 91; refine (inR (ends_any r _)).mono ?_; rintro e W' ⟨rfl, rfl⟩)
      have h := HE.out
      rw [if_pos g1] at h
      refine ⟨Kp.refl _ _ _ _, ⟨?_, HBY.out⟩, ?_, HCS.out⟩
      · rw [HN.out, if_pos h, HSO.out]; exact HJ'.out
      · rw [HN.out, if_pos h, HFR.out]; exact HBF.out
    · have g2 : endR4 r = true := by simpa using g1
      clear g1
      by_cases g3 : en = 0
      · have hz : decide (en ≠ 0) = false := by simp [g3]
        rw [hz] at HEND
        have G3 := hide g3
        clear g3
        gi_wp2_with (refine ⟨trivial, ?_⟩; first | (gi_at_call 91; refine (inR (ends_any r _)).mono ?_; rintro e W' ⟨rfl, rfl⟩) | (gi_at_call 92; refine (HEND.out _).mono ?_; rintro e w1 ⟨rfl, hB1⟩))
        have hk : Kp H N W0.heap.size W' w1 := Kp.of_below hB1
        refine ⟨hk, ⟨?_, below_boxed hB1 HBY.out⟩, ?_, (hB1.cell (p := ⟨Bs, 0, none⟩) (World.block_lt_of_cell? _ _ HCS.out)).trans HCS.out⟩
        · rw [HN.out, if_pos G3.out, HSO.out]; exact hJ _ _ _ HJ'.out (Sub.of_below hB1)
        · rw [HN.out, if_pos G3.out, HFR.out]; exact below_boxed hB1 HBF.out
      · have hz : decide (en ≠ 0) = true := by simp [g3]
        rw [hz] at HEND
        have hee' := hee g3
        have en3 : en ≤ 3 := by rw [← HEN.out]; exact endW_le3 _ _
        have hy2 : (sofar (bl s) (p + 1)).2 = so ++ [(fr, p, en)] := by rw [sofar_yes (by rw [HEN.out]; exact g3)]; simp only [stp]; rw [HSO.out, HFR.out, HEN.out]
        have G3 := hide g3
        have HY2 := hide hy2
        clear g3 hee hy2
        gi_wp2_with (refine ⟨trivial, ?_⟩; first | (gi_at_call 91; refine (inR (ends_any r _)).mono ?_; rintro e W' ⟨rfl, rfl⟩) | (gi_at_call 92; refine (HEND.out _).mono ?_; rintro e w1 ⟨rfl, hB1⟩; have hcF1 := (hB1.cell (p := ⟨W.heap.size + 1, 0, none⟩) (World.block_lt_of_cell? _ _ hcF)).trans hcF; have hcY1 := (hB1.cell (p := ⟨W.heap.size, 0, none⟩) (World.block_lt_of_cell? _ _ hcY)).trans hcY; obtain ⟨fn, tmps, assign, body, hy, hR⟩ := yield_any 0 l' (HY.out so (fr, p, en) w1 (hJ _ _ _ HJ'.out (Sub.of_below hB1)) (by rw [← HY2.out]; exact HSL.out)); simp only [encL] at hy; have HR := hide hR; have HB1 := hide hB1; clear hR hB1))
        refine HR.out.mono ?_
        rintro e W3 (⟨rfl, hJ3, hK3⟩ | ⟨rfl, hJx3, hK3⟩)
        · have hbF3 : Boxed W3 (W.heap.size + 1) 3 (.int .i64 (fr : Int)) := hK3.boxed (by omega) hHi (below_boxed HB1.out HBF.out)
          have hbY3 : Boxed W3 W.heap.size 145 (.func (.yield l) #[] #[]) := hK3.boxed (Nat.le_refl _) hHf (below_boxed HB1.out HBY.out)
          have hcs3 : W3.cell? ⟨Bs, 0, none⟩ = some (.string s) := hK3.cell hBs ((HB1.out.cell (p := ⟨Bs, 0, none⟩) (World.block_lt_of_cell? _ _ HCS.out)).trans HCS.out)
          have hcF3 := hbF3.cell
          have hfF3 := hbF3.frozen
          have HJ3 := hide hJ3
          have HK3 := hide hK3
          have HBF3 := hide hbF3
          have HBY3 := hide hbY3
          have HCS3 := hide hcs3
          clear hJ3 hK3 hbF3 hbY3 hcs3 hcF1 hcY1 hcF hcY hcs HR hy
          gi_wp2
          have hg3 : ¬ en = 0 := G3.out
          refine ⟨((Kp.of_below HB1.out).trans (HK3.out.up (by omega))).trans (Kp.set _ (fun h => by have := hN _ h; omega) (by omega)), ⟨?_, HBY3.out.other (by omega) _⟩, ?_, ?_⟩
          · rw [HN.out, if_neg hg3]
            simp only [stp]
            rw [HSO.out, HFR.out, HEN.out]
            exact hJ _ _ _ HJ3.out (Sub.set _ HBF3.out (by omega) hHi)
          · rw [HN.out, if_neg hg3]
            simp only [stp]
            rw [HEN.out]
            have h := HBF3.out.set (.int .i64 ((p : Int) + (en : Int)))
            simpa using h
          · exact (Kp.set (H := H) (N := N) (B := W.heap.size + 2) _ (fun h => by have := hN _ h; omega) (by omega)).cell hBs HCS3.out
        · have HJ3 := hide hJx3
          have HK3 := hide hK3
          clear hJx3 hK3 hcF1 hcY1 hcF hcY hcs HR hy
          gi_wp2
          exact ⟨(Kp.of_below HB1.out).trans (HK3.out.up (by omega)), rfl, _, by rw [← HY2.out]; exact HSL.out, HJ3.out⟩
  case hdone =>
    rintro D W2 hD ⟨⟨hJ2, hbY⟩, hbF, hcs⟩ hK
    rw [pl_fin] at hJ2 hbF
    obtain ⟨fn, tmps, assign, body, hy, hR⟩ := yield_out 2 (HY.out _ ((sofar (bl s) (bl s).length).1, (bl s).length, 0) W2 hJ2 (List.prefix_refl _))
    simp only [encL] at hy
    have hcF := hbF.cell
    have hcY := hbY.cell
    rw [bl_len] at hy hR hcF
    rw [show ((0 : Nat) : Int) = 0 from rfl] at hy
    have HR := hide hR
    have HK := hide hK
    clear hR hJ2 hbY hbF hK
    gi_wp2
    refine HR.out.mono ?_
    have hLs : (sofar (bl s) s.size).2 ++ [((sofar (bl s) s.size).1, s.size, 0)] = Ls (bl s) := by unfold Ls; rw [bl_len]
    rw [hLs]
    rintro e W3 (⟨rfl, hJ3, hK3⟩ | ⟨rfl, hJx3, hK3⟩)
    · have hK' : W3.heap[D]? = some (.deferred (some [])) := hK3.2 _ _ HK.out (.inr ⟨by omega, not_held rfl⟩)
      have hJ4 : J (Ls (bl s)) (W3.putObj D (.deferred none)) := hJ.put _ hJ3 (by omega) hK' rfl
      have HJ4 := hide hJ4
      clear hJ3 hJ4 hK3 HR hy hcF hcY hcs
      gi_wp2
      refine ⟨by simp, .inl ⟨_, _, rfl, run_takeDeferred hK', ?_⟩⟩
      exact ⟨_, results_none rfl _ _ _, ⟨_, rfl⟩, .inl HJ4.out⟩
    · have hK' : W3.heap[D]? = some (.deferred (some [])) := hK3.2 _ _ HK.out (.inr ⟨by omega, not_held rfl⟩)
      have hJ4 : Jx (Ls (bl s)) (W3.putObj D (.deferred none)) := hJx.put _ hJx3 (by omega) hK' rfl
      have HJ4 := hide hJ4
      clear hJx3 hJ4 hK3 HR hy hcF hcY hcs
      gi_wp2
      refine ⟨by simp, .inl ⟨_, _, rfl, run_takeDeferred hK', ?_⟩⟩
      exact ⟨_, results_none rfl _ _ _, ⟨_, rfl⟩, .inr ⟨_, List.prefix_refl _, HJ4.out⟩⟩
  case hstop =>
    rintro D c pre W2 hD _ ⟨rfl, p, hp, hJ2⟩ hK
    have hJ3 : Jx p (W2.putObj D (.deferred none)) := hJx.put _ hJ2 (by omega) hK rfl
    have HJ3 := hide hJ3
    clear hJ2 hJ3 HY
    gi_wp2
    refine ⟨by simp, .inl ⟨_, _, rfl, run_takeDeferred hK, ?_⟩⟩
    exact ⟨_, results_none rfl _ _ _, ⟨_, rfl⟩, .inr ⟨p, hp, HJ3.out⟩⟩

theorem lall_in (s : ByteArray) (w : World) :
    CallsIn Fence.wide 2 Tryz.prog 70 #[.string s] w fun e w' => e = .returned (.func (.func 89) #[] #[.pointer (some ⟨w.heap.size, 0, none⟩)]) ∧ w' = w.alloc (.cells #[.string s] 9) := by
  refine callsIn_of_wp Tryz.func70 rfl trivial ?_ rfl
  simp only [Tryz.ntmps70, List.size_toArray, List.length_cons, List.length_nil, Nat.reduceAdd, Nat.reduceSub, Array.replicate_succ, Array.replicate_zero, List.push_toArray, List.append_toArray, List.nil_append, List.cons_append]
  gi_wp2
  go_ret
  exact ⟨rfl, rfl⟩
end Go.Proofs.YtaljllbfedfpoaaGreatDoor
namespace Go.Proofs.YtaljllbfedfpoaaGreatDoor
open Go.RowKit Go.Shelf
set_option linter.unusedVariables false
attribute [local go_sem] Oper.semAt_some

theorem take_of_pre {α : Type} {pre xs : List α} {x : α} (h : pre ++ [x] <+: xs) : pre.length < xs.length ∧ xs[pre.length]? = some x := by
  have hl := h.length_le
  simp only [List.length_append, List.length_singleton] at hl
  refine ⟨by omega, ?_⟩
  have h2 := List.prefix_iff_eq_take.1 h
  have h3 : (pre ++ [x])[pre.length]? = some x := by simp
  rw [h2, List.getElem?_take] at h3
  simp only [List.length_append, List.length_singleton] at h3
  rwa [if_pos (by omega)] at h3

theorem celOf {w : World} {B : Nat} {cs : Array Value} {t : TypeId} (h : w.heap[B]? = some (.cells cs t (0, 0))) (i : Nat) (v : Value) (hv : cs[i]? = some v) : w.cell? ⟨B, i, none⟩ = some v := by
  simp only [World.cell?, h]
  exact hv
theorem frzOf {w : World} {B : Nat} {cs : Array Value} {t : TypeId} (h : w.heap[B]? = some (.cells cs t (0, 0))) (i : Nat) : w.frozen? ⟨B, i, none⟩ = false := by
  simp only [World.frozen?, h]
  simp
/-- A variable of two cells. -/
def Box2 (W : World) (B : Nat) (t : TypeId) (v0 v1 : Value) : Prop := W.heap[B]? = some (.cells #[v0, v1] t (0, 0))
theorem Box2.set {W : World} {B : Nat} {t : TypeId} {a0 a1 : Value} (h : Box2 W B t a0 a1) (v0 v1 : Value) : Box2 ((W.setCell ⟨B, 0, none⟩ v0).setCell ⟨B, 1, none⟩ v1) B t v0 v1 := by
  have R1 := heap_setCell_same W B 0 _ _ v0 h
  exact heap_setCell_same _ B 1 _ _ v1 R1
theorem Box2.c1 {W : World} {B : Nat} {t : TypeId} {a0 a1 : Value} (h : Box2 W B t a0 a1) (v0 : Value) : (W.setCell ⟨B, 0, none⟩ v0).cell? ⟨B, 1, none⟩ = some a1 := celOf (heap_setCell_same W B 0 _ _ v0 h) 1 _ rfl
theorem Box2.other {W : World} {B b o : Nat} {t : TypeId} {a0 a1 : Value} (h : Box2 W B t a0 a1) (hne : B ≠ b) (v : Value) : Box2 (W.setCell ⟨b, o, none⟩ v) B t a0 a1 := (Below.heap_setCell W ⟨b, o, none⟩ v B hne).trans h
theorem oth {W : World} {B b o : Nat} {t : TypeId} {a : Value} (h : Boxed W B t a) (hne : B ≠ b) (v : Value) : Boxed (W.setCell ⟨b, o, none⟩ v) B t a := (Below.heap_setCell W ⟨b, o, none⟩ v B hne).trans h
theorem Box2.below {W W' : World} {b : Nat} {t : TypeId} {v u : Value} (h : Below W.heap.size W W') (hb : Box2 W b t v u) : Box2 W' b t v u :=
  (h.block b (Array.getElem?_eq_some_iff.1 (show W.heap[b]? = _ from hb)).1).trans hb
theorem Stab.box2 {β : Type} {H : TypeId → Prop} {B b : Nat} (t : TypeId) (v0 v1 : Value) (hb : b < B) : Stab H B (fun (_ : β) W => Box2 W b t v0 v1) := fun s W W' hJ hs => hs.2 b _ hJ (.inl hb)
theorem Kp.set' {H : TypeId → Prop} {N : Nat → Prop} {B b o : Nat} {W : World} (u : Value) (hn : ¬ N b) (hB : b < B) : Kp H N B W (W.setCell ⟨b, o, none⟩ u) := by
  refine ⟨⟨rfl, rfl, rfl, by simp [World.setCell]⟩, fun k o2 hk hc => ?_⟩
  refine (Below.heap_setCell W ⟨b, o, none⟩ u k (fun e => ?_)).trans hk
  have e' : k = b := e
  subst e'
  rcases hc with h1 | h1
  · exact hn h1
  · omega
/-- What a function answers whose three results lie in variables of its own. -/
theorem results_row_cells {P : Program} {fn : Func} {p q u : Tmp} {ty ty1 ty2 : TypeId} (h : fn.results = #[.cell p ty, .cell q ty1, .cell u ty2]) (tmps : Array Value) (w : World) (g g1 g2 : Nat) (t t1 t2 : TypeId) (v0 v1 v2 v3 : Value) (d : TypeDesc)
    (hp : tmps.getD p undef = .pointer (some ⟨g, 0, none⟩)) (hq : tmps.getD q undef = .pointer (some ⟨g1, 0, none⟩)) (hu' : tmps.getD u undef = .pointer (some ⟨g2, 0, none⟩)) (hg : Box2 w g t v0 v1) (hg1 : Boxed w g1 t1 v2) (hg2 : Boxed w g2 t2 v3)
    (hu : P.underlying ty = some d) (hd : (match d with | .struct _ | .array _ _ => true | _ => false) = true) (hi : (P.info? ty).map (·.size) = some 2)
    (h1 : ∀ w' : World, w'.cell? ⟨g1, 0, none⟩ = some v2 → (loadVar ty1 ⟨g1, 0, none⟩).run P w' = .ok v2 w') (h2 : ∀ w' : World, w'.cell? ⟨g2, 0, none⟩ = some v3 → (loadVar ty2 ⟨g2, 0, none⟩).run P w' = .ok v3 w') :
    (results fn tmps).run P w = .ok (.tuple #[.agg #[v0, v1], v2, v3]) w := by
  have hp' : tmps[p]?.getD undef = .pointer (some ⟨g, 0, none⟩) := by simpa using hp
  have hq' : tmps[q]?.getD undef = .pointer (some ⟨g1, 0, none⟩) := by simpa using hq
  have hu'' : tmps[u]?.getD undef = .pointer (some ⟨g2, 0, none⟩) := by simpa using hu'
  have e1 := h1 w hg1.cell
  have e2 := h2 w hg2.cell
  simp [results, h, hp', hq', hu'', asAddr, run_loadVar_row w g t ty #[v0, v1] (0, 0) d hg hu hd hi, e1, e2, Sem.run_bind, Result.andThen]

theorem load_int {w : World} {g : Nat} {v : Value} (h : w.cell? ⟨g, 0, none⟩ = some v) : (loadVar 3 ⟨g, 0, none⟩).run Tryz.prog w = .ok v w := by
  simp [loadVar, Sem.run_bind, Tryz.isAgg3, h, go_sem]
theorem load_err {w : World} {g : Nat} {v : Value} (h : w.cell? ⟨g, 0, none⟩ = some v) : (loadVar 35 ⟨g, 0, none⟩).run Tryz.prog w = .ok v w := by
  simp [loadVar, Sem.run_bind, Tryz.isAgg35, h, go_sem]
theorem put_kept {W : World} {D b : Nat} {o o1 : Obj} (o' : Obj) (hK : W.heap[D]? = some o) (hb : W.heap[b]? = some o1) (hne : b ≠ D) : (W.putObj D o').heap[b]? = some o1 := (World.putObj_heap_other hne).trans hb

/-- The answer of Line. -/
def lineV (l : List UInt8) (n : Int) : (Int × Int) × Int × Int := if 0 ≤ n ∧ n < ((Ls l).length : Int) then (match (Ls l)[n.toNat]? with | some x => (((x.1 : Int), (x.2.1 : Int)), (x.2.2 : Int), 0) | none => ((0, 0), 0, 6)) else ((0, 0), 0, 6)
def encLV (v : (Int × Int) × Int × Int) : Value := .tuple #[.agg #[.int .i64 v.1.1, .int .i64 v.1.2], .int .i64 v.2.1, .int .i64 v.2.2]

end Go.Proofs.YtaljllbfedfpoaaGreatDoor
namespace Go.Proofs.YtaljllbfedfpoaaGreatDoor
open Go.RowKit Go.Shelf
set_option linter.unusedVariables false
attribute [local go_sem] Oper.semAt_some

theorem Kp.wider {H : TypeId → Prop} {N N' : Nat → Prop} {B : Nat} {A C : World} (h : Kp H N B A C) (hN : ∀ k o, A.heap[k]? = some o → N' k → N k ∨ (B ≤ k ∧ ¬ Held H o)) : Kp H N' B A C :=
  ⟨h.1, fun k o hk hc => h.2 k o hk (hc.elim (fun h1 => hN k o hk h1) Or.inr)⟩
theorem two_ways {e : Ending} {P Q : Prop} (h : (e = .returned (.bool true) ∧ P) ∨ (e = .returned (.bool false) ∧ Q)) : ∃ b, e = .returned (.bool b) ∧ ((b = true ∧ P) ∨ (b = false ∧ Q)) := by
  rcases h with ⟨h, p⟩ | ⟨h, p⟩
  · exact ⟨true, h, .inl ⟨rfl, p⟩⟩
  · exact ⟨false, h, .inr ⟨rfl, p⟩⟩
set_option maxRecDepth 100000 in
set_option maxHeartbeats 2000000 in
theorem slines_x (H : TypeId → Prop) (N : Nat → Prop) (Bs : Nat) (s : ByteArray) (w : World) (hs : s.size ≤ 1099511627776) (hBs : N Bs) (hN : ∀ k, N k → k < w.heap.size) (cs : w.cell? ⟨Bs, 0, none⟩ = some (.string s))
    (hHi : ¬ H 3) (hHs : ¬ H 9) (hHf : ¬ H 145) (hHg : ¬ H 115) (hHp : ¬ H 90) :
    SeqX H N 69 #[.pointer (some ⟨Bs, 0, none⟩)] encS (SLs s) w := fun l J Jx W hW hJ hJx hY h0 => by
  have hBlt := hN Bs hBs
  have hll := Ls_len (bl s)
  rw [bl_len] at hll
  have cs' := (hW.cell (p := ⟨Bs, 0, none⟩) (by show Bs < _; omega)).trans cs
  have hsW := hW.size
  have hA : Below W.heap.size W ((W.alloc (.cells #[.func (.yield l) #[] #[]] 115)).alloc (.cells #[.int .i64 0] 3)) := ((Below.refl _ _).alloc (Nat.le_refl _) _).alloc (by simp) _
  have cs2 := (hA.cell (p := ⟨Bs, 0, none⟩) (by show Bs < _; omega)).trans cs'
  have HY := hide hY
  clear hY
  refine callsIn_wide.2 ((callsIn_wide (n := 3)).1 ?_)
  refine callsIn_of_wp_marks Tryz.func69 rfl trivial ?_ rfl
  simp only [Tryz.ntmps69, List.size_toArray, List.length_cons, List.length_nil, Nat.reduceAdd, Nat.reduceSub, Array.replicate_succ, Array.replicate_zero, List.push_toArray, List.append_toArray, List.nil_append, List.cons_append]
  gi_wp2_with (refine ⟨trivial, ?_⟩; gi_at_call 70; refine (lall_in s _).mono ?_; rintro e w' ⟨rfl, rfl⟩)
  have bY := ((Boxed.new W 115 (.func (.yield l) #[] #[])).alloc (.cells #[.int .i64 0] 3)).alloc (.cells #[.string s] 9)
  have bF := (Boxed.new (W.alloc (.cells #[.func (.yield l) #[] #[]] 115)) 3 (.int .i64 0)).alloc (.cells #[.string s] 9)
  have bS := Boxed.new ((W.alloc (.cells #[.func (.yield l) #[] #[]] 115)).alloc (.cells #[.int .i64 0] 3)) 9 (.string s)
  simp only [World.size_alloc] at bF bS
  have hB0 : Below W.heap.size W (((W.alloc (.cells #[.func (.yield l) #[] #[]] 115)).alloc (.cells #[.int .i64 0] 3)).alloc (.cells #[.string s] 9)) := (((Below.refl _ W).alloc (Nat.le_refl _) _).alloc (by simp) _).alloc (by simp; omega) _
  have hsz : (((W.alloc (.cells #[.func (.yield l) #[] #[]] 115)).alloc (.cells #[.int .i64 0] 3)).alloc (.cells #[.string s] 9)).heap.size = W.heap.size + 3 := by simp
  have hJ0 : J [] (((W.alloc (.cells #[.func (.yield l) #[] #[]] 115)).alloc (.cells #[.int .i64 0] 3)).alloc (.cells #[.string s] 9)) := hJ.alloc _ (hJ.alloc _ (hJ.alloc _ h0))
  obtain ⟨W0, hW0⟩ : ∃ W0, (((W.alloc (.cells #[.func (.yield l) #[] #[]] 115)).alloc (.cells #[.int .i64 0] 3)).alloc (.cells #[.string s] 9)) = W0 := ⟨_, rfl⟩
  rw [hW0] at bY bF bS hB0 hsz hJ0 ⊢
  clear hW0 cs2 hA
  have cs3 := (hB0.cell (p := ⟨Bs, 0, none⟩) (by show Bs < _; omega)).trans cs'
  have hNN : ∀ k, (N k ∨ k = W.heap.size + 1 + 1) → k < W0.heap.size := fun k h => by
    rcases h with h | h
    · have := hN k h; omega
    · omega
  apply rangeP (gf := 89) (lb := #[.pointer (some ⟨W.heap.size + 1 + 1, 0, none⟩)]) (encs := encL) rfl (enters_of Tryz.func89 (by kernel_rfl) rfl)
    (lall_x H (fun k => N k ∨ k = W.heap.size + 1 + 1) (W.heap.size + 1 + 1) s W0 (by omega) (.inr rfl) hNN bS.cell hHi hHf) (Below.refl _ _) hNN (fun _ => rfl)
    (fun pre W' => ((J (told s pre) W' ∧ Boxed W' W.heap.size 115 (.func (.yield l) #[] #[])) ∧ (Boxed W' (W.heap.size + 1) 3 (.int .i64 ((pre.length : Nat) : Int)) ∧ W'.cell? ⟨Bs, 0, none⟩ = some (.string s))) ∧ (Boxed W' (W.heap.size + 1 + 1) 9 (.string s) ∧ W0.heap.size ≤ W'.heap.size))
    (fun c pre W' => c = .ret ∧ ∃ p, p <+: SLs s ∧ Jx p W')
    (Stab.and (Stab.and (Stab.and ((hJ.up (by omega)).comp _) (Stab.box _ _ (by omega))) (Stab.and (Stab.boxed _ _ (by omega)) (Stab.cell _ (by omega)))) (Stab.and (Stab.box _ _ (by omega)) (fun s A B h hs => Nat.le_trans h hs.1.2.2.2)))
    (fun c => Stab.and (Stab.pure _) (fun s A B hs hg => by obtain ⟨p, hp, hx⟩ := hs; exact ⟨p, hp, hJx.up (show W.heap.size ≤ W0.heap.size by omega) p A B hx hg⟩))
    ⟨⟨⟨hJ0, bY⟩, bF, cs3⟩, bS, Nat.le_refl _⟩ (fun x => #[.int .i64 (x.1 : Int), .int .i64 (x.2.1 : Int)]) 90
  case hsize => exact fun s W h => h.2.2
  case hassign =>
    intro l' x W' K hK
    simp only [encL]
    gi_wp2
    exact hK _ ((Below.refl _ _).alloc (Nat.le_refl _) _) (heap_alloc_new _ _)
  case hbody =>
    rintro l' pre x Wb W' ⟨⟨⟨hJ', hbY⟩, hbF, hcs⟩, hbS, hsz'⟩ hWb hpc hpx
    obtain ⟨hpl, hget⟩ := take_of_pre hpx
    have hm := Ls_mem (List.mem_of_getElem? hget)
    rw [bl_len] at hm
    have htp := told_pre (s := s) hpx
    obtain ⟨p, q, e⟩ := x
    simp only at hm hpc
    have hP : Box2 W' Wb.heap.size 90 (.int .i64 (p : Int)) (.int .i64 (q : Int)) := hpc
    have hpq : (p : Int) ≤ (q : Int) := by omega
    have hqs : (q : Int) ≤ (s.size : Int) := by omega
    have hplI : (pre.length : Int) ≤ 1099511627777 := by omega
    obtain ⟨t, ht⟩ : ∃ t, s.extract p q = t := ⟨_, rfl⟩
    have hlt' : lnT s (p, q, e) = t := ht
    have htz : t.size ≤ 1099511627776 := by rw [← ht, ByteArray.size_extract]; omega
    have KC := hide (fun w' => clone_any t w' (by omega))
    have ks := fun w' => says_any t w' (by omega)
    have hset : ∀ v, (Boxed (W'.setCell ⟨W.heap.size + 1, 0, none⟩ v) W.heap.size 115 (.func (.yield l) #[] #[]) ∧ Boxed (W'.setCell ⟨W.heap.size + 1, 0, none⟩ v) (W.heap.size + 1) 3 v) ∧ (W'.setCell ⟨W.heap.size + 1, 0, none⟩ v).cell? ⟨Bs, 0, none⟩ = some (.string s) ∧ Box2 (W'.setCell ⟨W.heap.size + 1, 0, none⟩ v) Wb.heap.size 90 (.int .i64 (p : Int)) (.int .i64 (q : Int)) := fun v => ⟨⟨hbY.other (by omega) v, hbF.set v⟩, (World.cell?_of_block (Below.heap_setCell W' ⟨W.heap.size + 1, 0, none⟩ v Bs (show Bs ≠ W.heap.size + 1 by omega))).trans hcs, hP.other (by omega) v⟩
    obtain ⟨⟨hbY1, hbF1⟩, hcs1, hP1⟩ := hset (.int .i64 ((pre.length : Int) + 1))
    have hJ1 : J (told s pre) (W'.setCell ⟨W.heap.size + 1, 0, none⟩ (.int .i64 ((pre.length : Int) + 1))) := hJ _ _ _ hJ' (Sub.set _ hbF (by omega) hHi)
    have hK1 : Kp H (fun k => N k ∨ k = W.heap.size + 1 + 1) W0.heap.size W' (W'.setCell ⟨W.heap.size + 1, 0, none⟩ (.int .i64 ((pre.length : Int) + 1))) := Kp.set _ (fun h => by rcases h with h | h; have := hN _ h; omega; omega) (by omega)
    have hs1 : W0.heap.size ≤ (W'.setCell ⟨W.heap.size + 1, 0, none⟩ (.int .i64 ((pre.length : Int) + 1))).heap.size := by simp [World.setCell]; exact hsz'
    have hbS1 : Boxed (W'.setCell ⟨W.heap.size + 1, 0, none⟩ (.int .i64 ((pre.length : Int) + 1))) (W.heap.size + 1 + 1) 9 (.string s) := hbS.other (by omega) _
    have HBS := hide hbS1
    have hcF := hbF.cell
    have hfF := hbF.frozen
    have hp0 := celOf hP1 0 _ rfl
    have hp1 := celOf hP1 1 _ rfl
    have HBY := hide hbY1
    have HBF := hide hbF1
    have HJ1 := hide hJ1
    have HK1 := hide hK1
    have HS1 := hide hs1
    have HTP := hide htp
    have HLT := hide hlt'
    have HCS1 := hide hcs1
    clear hJ' hbY hbF hcs hsz' hbS hbS1 hset hP hP1 hpc hpx hget htp hlt' hbY1 hbF1 hJ1 hK1 hs1 hm hpl
    gi_wp2_with (fail)
    clear hcF hfF hp0 hp1 hcs1
    generalize (W'.setCell ⟨W.heap.size + 1, 0, none⟩ (.int .i64 ((pre.length : Int) + 1))) = W1 at *
    have hcast : ((pre.length + 1 : Nat) : Int) = (pre.length : Int) + 1 := by omega
    cases hsv : saysV t with
    | false =>
      rw [hsv] at ks
      have KS := hide ks
      have HSV := hide hsv
      clear ks hsv
      gi_region_with (first | (refine ⟨trivial, ?_⟩; (gi_at_call 71; refine (inR (KS.out _)).mono ?_; rintro e2 w2 ⟨rfl, hB2⟩; have hX2 := bseq (Below.refl _ W1).drew hB2; have HX2 := hide hX2; have y2 := (below_boxed hX2 HBY.out).cell; have n2 := (below_boxed hX2 HBF.out).cell; clear hX2 hB2)) | (refine ⟨trivial, ?_⟩) | (refine ⟨fun _ h => (by cases h), ?_⟩))
      all_goals
        gi_wp2
        have htn := told_no (s := s) (pre := pre) (x := (p, q, e)) (by rw [HLT.out]; exact HSV.out)
        refine ⟨HK1.out.trans (Kp.of_below HX2.out), ⟨⟨by rw [htn]; exact hJ _ _ _ HJ1.out (Sub.of_below HX2.out), below_boxed HX2.out HBY.out⟩, ?_, (HX2.out.cell (p := ⟨Bs, 0, none⟩) (World.block_lt_of_cell? _ _ HCS1.out)).trans HCS1.out⟩, below_boxed HX2.out HBS.out, Nat.le_trans HS1.out HX2.out.size⟩
        rw [List.length_append, List.length_singleton, hcast]
        exact below_boxed HX2.out HBF.out
    | true =>
      rw [hsv] at ks
      have KS := hide ks
      have hty := told_yes (s := s) (pre := pre) (x := (p, q, e)) (by rw [HLT.out]; exact hsv)
      rw [HLT.out] at hty
      have HTY := hide hty
      clear ks hsv hty
      gi_region_with (first | (refine ⟨trivial, ?_⟩; first | (gi_at_call 71; refine (inR (KS.out _)).mono ?_; rintro e2 w2 ⟨rfl, hB2⟩; have hX2 := bseq (Below.refl _ W1).drew hB2; have HX2 := hide hX2; have y2 := (below_boxed hX2 HBY.out).cell; have n2 := (below_boxed hX2 HBF.out).cell; clear hX2 hB2) | (gi_at_call 57; refine (inR (KC.out _)).mono ?_; rintro e3 w3 ⟨rfl, hB3⟩; have hX3 := bseq HX2.out hB3; have HX3 := hide hX3; have y3 := (below_boxed hX3 HBY.out).cell; have n3 := (below_boxed hX3 HBF.out).cell; obtain ⟨fn, tmps, assign, body, hy, hR⟩ := yield_any 0 l' (HY.out (told s pre) (pre.length + 1, t) w3 (hJ _ _ _ HJ1.out (Sub.of_below hX3)) (by rw [← HTY.out]; exact HTP.out)); simp only [encS] at hy; rw [hcast] at hy; have HR := hide hR; clear hR hX3 hB3)) | (refine (HR.out).mono ?_; intro e4 w4 h4; obtain ⟨b, rfl, hb⟩ := two_ways h4; have HBB := hide hb; clear h4 hb))
      all_goals
        rcases HBB.out with ⟨rfl, hJ3, hK3⟩ | ⟨rfl, hJ3, hK3⟩
        · have HJ3 := hide hJ3
          have HK3 := hide hK3
          clear hJ3 hK3 HBB HR hy y3 n3 y2 n2
          gi_wp2
          have kW : Kp H (fun k => N k ∨ k = W.heap.size + 1 + 1) W0.heap.size w3 w4 := (HK3.out.wider (fun k o hk hc => by
            rcases hc with hc | hc
            · exact .inl hc
            · refine .inr ⟨by omega, ?_⟩
              have hb := below_boxed HX3.out HBS.out
              rw [hc, show w3.heap[W.heap.size + 1 + 1]? = _ from hb] at hk
              cases hk
              rintro ⟨c, t', fr, e1, e2⟩
              cases e1
              exact hHs e2)).up (by omega)
          refine ⟨(HK1.out.trans (Kp.of_below HX3.out)).trans kW, ⟨⟨by rw [HTY.out]; exact HJ3.out, HK3.out.boxed (Nat.le_refl _) hHg (below_boxed HX3.out HBY.out)⟩, ?_, HK3.out.cell hBs ((HX3.out.cell (p := ⟨Bs, 0, none⟩) (World.block_lt_of_cell? _ _ HCS1.out)).trans HCS1.out)⟩, HK3.out.boxed (by omega) hHs (below_boxed HX3.out HBS.out), Nat.le_trans (Nat.le_trans HS1.out HX3.out.size) HK3.out.1.2.2.2⟩
          rw [List.length_append, List.length_singleton, hcast]
          exact HK3.out.boxed (by omega) hHi (below_boxed HX3.out HBF.out)
        · have HJ3 := hide hJ3
          have HK3 := hide hK3
          clear hJ3 hK3 HBB HR hy y3 n3 y2 n2
          gi_wp2
          have kW : Kp H (fun k => N k ∨ k = W.heap.size + 1 + 1) W0.heap.size w3 w4 := (HK3.out.wider (fun k o hk hc => by
            rcases hc with hc | hc
            · exact .inl hc
            · refine .inr ⟨by omega, ?_⟩
              have hb := below_boxed HX3.out HBS.out
              rw [hc, show w3.heap[W.heap.size + 1 + 1]? = _ from hb] at hk
              cases hk
              rintro ⟨c, t', fr, e1, e2⟩
              cases e1
              exact hHs e2)).up (by omega)
          exact ⟨(HK1.out.trans (Kp.of_below HX3.out)).trans kW, rfl, _, by rw [← HTY.out]; exact HTP.out, HJ3.out⟩
  case hdone =>
    rintro D W2 hD ⟨⟨⟨hJ2, hbY⟩, hbF, hcs⟩, hbS, hs2⟩ hK
    have hJ4 : J (SLs s) (W2.putObj D (.deferred none)) := hJ.put _ hJ2 (by omega) hK rfl
    have HJ4 := hide hJ4
    clear hJ2 hJ4 hbY hbF hcs hbS
    gi_wp2
    refine ⟨by simp, .inl ⟨_, _, rfl, run_takeDeferred hK, ?_⟩⟩
    exact ⟨_, results_none rfl _ _ _, ⟨_, rfl⟩, .inl HJ4.out⟩
  case hstop =>
    rintro D c pre W2 hD _ ⟨rfl, p, hp, hJ2⟩ hK
    have hJ3 : Jx p (W2.putObj D (.deferred none)) := hJx.put _ hJ2 (by omega) hK rfl
    have HJ3 := hide hJ3
    clear hJ2 hJ3 HY
    gi_wp2
    refine ⟨by simp, .inl ⟨_, _, rfl, run_takeDeferred hK, ?_⟩⟩
    exact ⟨_, results_none rfl _ _ _, ⟨_, rfl⟩, .inr ⟨p, hp, HJ3.out⟩⟩
theorem slines_in (s : ByteArray) (w : World) :
    CallsIn Fence.wide 2 Tryz.prog 53 #[.string s] w fun e w' => e = .returned (.func (.func 69) #[] #[.pointer (some ⟨w.heap.size, 0, none⟩)]) ∧ w' = w.alloc (.cells #[.string s] 9) := by
  refine callsIn_of_wp Tryz.func53 rfl trivial ?_ rfl
  simp only [Tryz.ntmps53, List.size_toArray, List.length_cons, List.length_nil, Nat.reduceAdd, Nat.reduceSub, Array.replicate_succ, Array.replicate_zero, List.push_toArray, List.append_toArray, List.nil_append, List.cons_append]
  gi_wp2
  go_ret
  exact ⟨rfl, rfl⟩
end Go.Proofs.YtaljllbfedfpoaaGreatDoor
namespace Go.Proofs.YtaljllbfedfpoaaGreatDoor
open Go.RowKit Go.Shelf
set_option linter.unusedVariables false
attribute [local go_sem] Oper.semAt_some

theorem Tryz.infoRw : (Tryz.prog.info? 51).map (fun i => (i.zero, i.size, i.bytes)) = some (some (.agg #[.int .i64 0, .string ⟨#[]⟩]), 2, 24) := by kernel_rfl
/-- A line that is told, as two cells. -/
def rwC (y : Nat × ByteArray) : List Value := [.int .i64 (y.1 : Int), .string y.2]
theorem rwC_len (xs : List (Nat × ByteArray)) : (xs.flatMap rwC).length = xs.length * 2 := by
  induction xs with
  | nil => rfl
  | cons x xs ih => simp [List.flatMap_cons, ih, rwC]; omega
theorem flat_snocW (xs : List (Nat × ByteArray)) (x : Nat × ByteArray) : (xs ++ [x]).flatMap rwC = xs.flatMap rwC ++ [.int .i64 (x.1 : Int), .string x.2] := by
  rw [List.flatMap_append]; simp [rwC]
def RowW (W : World) (base : Nat) (v : Value) (ys : List (Nat × ByteArray)) : Prop := W.ownsRow base 51 2 v ys.length (ys.flatMap rwC)
theorem RowW.below {W W' : World} {base : Nat} {v : Value} {ys : List (Nat × ByteArray)} (h : RowW W base v ys) (hb : Below W.heap.size W W') : RowW W' base v ys := by
  refine ⟨h.1, ?_⟩
  rcases h.2 with h2 | ⟨g, cap, cur, hv, hg, hh, r⟩
  · exact .inl h2
  · exact .inr ⟨g, cap, cur, hv, hg, (hb.block g (Array.getElem?_eq_some_iff.1 hh).1).trans hh, r⟩
theorem RowW.other {W : World} {base D : Nat} {v : Value} {ys : List (Nat × ByteArray)} {o o' : Obj} (h : RowW W base v ys) (hD : W.heap[D]? = some o) (ho : o.isCells = false) : RowW (W.putObj D o') base v ys := by
  refine ⟨h.1, ?_⟩
  rcases h.2 with h2 | ⟨g, cap, cur, hv, hg, hh, r⟩
  · exact .inl h2
  · exact .inr ⟨g, cap, cur, hv, hg, (World.putObj_heap_other (fun e => by rw [e, hD] at hh; cases hh; cases ho)).trans hh, r⟩
theorem ownsRow_belowW {W W' : World} {base : Nat} {e : TypeId} {size : Nat} {v : Value} {k : Nat} {xs : List Value} (h : W.ownsRow base e size v k xs) (hb : Below W.heap.size W W') : W'.ownsRow base e size v k xs := by
  refine ⟨h.1, ?_⟩
  rcases h.2 with h2 | ⟨g, cap, cur, hv, hg, hh, r⟩
  · exact .inl h2
  · exact .inr ⟨g, cap, cur, hv, hg, (hb.block g (Array.getElem?_eq_some_iff.1 hh).1).trans hh, r⟩
theorem row_valW {W : World} {base : Nat} {e : TypeId} {size : Nat} {v : Value} {k : Nat} {xs : List Value} (h : W.ownsRow base e size v (k + 1) xs) : ∃ g cap, v = .slice (some ⟨g, 0, none⟩) (k + 1) cap := by
  rcases h.2 with ⟨_, h2⟩ | ⟨g, cap, cur, rfl, _⟩
  · omega
  · exact ⟨g, cap, rfl⟩
theorem cell2_newW (W : World) (t : TypeId) (a b : Value) : ∀ j u, [a, b][j]? = some u → (W.alloc (.cells #[a, b] t)).cell? ((⟨W.heap.size, 0, none⟩ : Addr).add j) = some u := by
  intro j u hj
  match j, hj with
  | 0, hj => simp at hj; subst hj; simp [Addr.add]
  | 1, hj => simp at hj; subst hj; simp [Addr.add]
  | n + 2, hj => simp at hj
set_option maxRecDepth 100000 in
theorem run_func_nilW (gf : Nat) (lb : Array Value) (w : World) : Sem.run Tryz.prog (binOp BinOp.eql 94 (Value.func (Fn.func gf) #[] lb) Value.nilFunc) w = .ok (.bool false) w := by
  rfl
theorem pre_takeW {α : Type} {pre xs : List α} (h : pre <+: xs) : pre = xs.take pre.length := List.prefix_iff_eq_take.1 h
theorem sls_len (s : ByteArray) : (SLs s).length ≤ s.size + 1 := by
  have h1 := told_len s (Ls (bl s))
  have h2 := Ls_len (bl s)
  rw [bl_len] at h2
  exact Nat.le_trans h1 h2
set_option maxRecDepth 100000 in
set_option maxHeartbeats 2000000 in
theorem rows_any (s : ByteArray) (k : Nat) (w : World) (hs : s.size ≤ 1099511627776) (hk : 1 ≤ k) (hk2 : k ≤ 2199023255552) :
    Calls Tryz.prog 22 #[.string s, .int .i64 (k : Int)] w fun e w' => ∃ v, e = .returned v ∧ RowW w' w.heap.size v ((SLs s).take k) ∧ Below w.heap.size w w' := by
  have hll := sls_len s
  obtain ⟨i0, hi, hz0, hz1, hz2⟩ := info_parts Tryz.infoRw
  have hnil := run_func_nilW
  refine (callsIn_wide (n := 3)).1 ?_
  refine callsIn_of_wp_marks Tryz.func22 rfl trivial ?_ rfl
  simp only [Tryz.ntmps22, List.size_toArray, List.length_cons, List.length_nil, Nat.reduceAdd, Nat.reduceSub, Array.replicate_succ, Array.replicate_zero, List.push_toArray, List.append_toArray, List.nil_append, List.cons_append]
  gi_wp2_with (refine ⟨trivial, ?_⟩; gi_at_call 53; refine (slines_in s _).mono ?_; rintro e w' ⟨rfl, rfl⟩)
  have b0 := ((Boxed.new w 3 (.int .i64 (k : Int))).alloc (.cells #[.slice none 0 0] 47)).alloc (.cells #[.string s] 9)
  have b1 := (Boxed.new (w.alloc (.cells #[.int .i64 (k : Int)] 3)) 47 (.slice none 0 0)).alloc (.cells #[.string s] 9)
  have b5 := Boxed.new ((w.alloc (.cells #[.int .i64 (k : Int)] 3)).alloc (.cells #[.slice none 0 0] 47)) 9 (.string s)
  have hB0 : Below w.heap.size w (((w.alloc (.cells #[.int .i64 (k : Int)] 3)).alloc (.cells #[.slice none 0 0] 47)).alloc (.cells #[.string s] 9)) := (((Below.refl _ w).alloc (Nat.le_refl _) _).alloc (by simp) _).alloc (by simp; omega) _
  have hsz : (((w.alloc (.cells #[.int .i64 (k : Int)] 3)).alloc (.cells #[.slice none 0 0] 47)).alloc (.cells #[.string s] 9)).heap.size = w.heap.size + 3 := by simp
  simp only [World.size_alloc] at b1 b5
  obtain ⟨W0, hW0⟩ : ∃ W0, (((w.alloc (.cells #[.int .i64 (k : Int)] 3)).alloc (.cells #[.slice none 0 0] 47)).alloc (.cells #[.string s] 9)) = W0 := ⟨_, rfl⟩
  rw [hW0] at b0 b1 b5 hB0 hsz ⊢
  clear hW0
  simp only [Nat.add_assoc, Nat.reduceAdd] at b0 b1 b5 ⊢
  have key : ∀ (D : Nat) (pre : List (Nat × ByteArray)) (v : Value) (W : World), w.heap.size + 3 ≤ D → RowW W (w.heap.size + 3) v pre → pre = (SLs s).take k → Below w.heap.size w W → W.heap[D]? = some (.deferred (some [])) →
      RowW (W.putObj D (.deferred none)) w.heap.size v ((SLs s).take k) ∧ Below w.heap.size w (W.putObj D (.deferred none)) := by
    intro D pre v W hD hrow hpre hB hK
    refine ⟨?_, hB.trans (belowK_b (w := w) (Nat.le_refl _) W D _ _ (by omega) hK rfl rfl)⟩
    rw [← hpre]
    have h := hrow.other (o' := .deferred none) hK rfl
    refine ⟨h.1, ?_⟩
    rcases h.2 with h2 | ⟨g, cap, cur, hv, hg, r⟩
    · exact .inl h2
    · exact .inr ⟨g, cap, cur, hv, by omega, r⟩
  have KEY := hide key
  clear key
  apply rangeX (gf := 69) (lb := #[.pointer (some ⟨w.heap.size + 2, 0, none⟩)]) (encs := encS) rfl (enters_of Tryz.func69 (by kernel_rfl) rfl)
    (slines_x (fun t => t = 51) (fun k => k = w.heap.size + 2) (w.heap.size + 2) s W0 (by omega) rfl (fun k h => by omega) b5.cell (by decide) (by decide) (by decide) (by decide) (by decide)) (Below.refl _ _) (fun k h => by omega) (fun _ => rfl)
    (fun pre W' => (Boxed W' w.heap.size 3 (.int .i64 (k : Int)) ∧ ∃ v, (Boxed W' (w.heap.size + 1) 47 v ∧ World.ownsRow W' (w.heap.size + 3) 51 2 v pre.length (pre.flatMap rwC))) ∧ (pre.length < k ∧ (W0.heap.size ≤ W'.heap.size ∧ Below w.heap.size w W')))
    (fun c pre W' => (c = .exit 0 ∧ ∃ v, (Boxed W' (w.heap.size + 1) 47 v ∧ World.ownsRow W' (w.heap.size + 3) 51 2 v pre.length (pre.flatMap rwC))) ∧ (pre.length = k ∧ Below w.heap.size w W'))
    (Stab.and (Stab.and (Stab.box _ _ (by omega)) (Stab.ex fun v => Stab.and (Stab.box _ _ (by omega)) (Stab.row _ _ _ _ _ rfl))) (Stab.and (Stab.pure _) (Stab.and (fun s A B h hs => Nat.le_trans h hs.1.2.2.2) (Stab.below (by omega) (by omega)))))
    (fun c => Stab.and (Stab.and (Stab.pure _) (Stab.ex fun v => Stab.and (Stab.box _ _ (by omega)) (Stab.row _ _ _ _ _ rfl))) (Stab.and (Stab.pure _) (Stab.below (by omega) (by omega))))
    ⟨⟨b0, _, b1, World.ownsRow_nil _ _ _ _⟩, by simp; omega, Nat.le_refl _, hB0⟩
  case hassign =>
    intro l' x W' K hK
    simp only [encS]
    gi_wp2
    exact hK
  case hbody =>
    rintro l' pre x W' ⟨⟨h0, v, h1, hrow⟩, hpk, hsz', hB⟩ hpx
    obtain ⟨hpl, hget⟩ := take_of_pre hpx
    obtain ⟨p, q⟩ := x
    have fin : ∀ W4 w4 v', Below W'.heap.size W' W4 → World.ownsRow w4 (w.heap.size + 3) 51 2 v' (pre.length + 1) (pre.flatMap rwC ++ [.int .i64 (p : Int), .string q]) → W4.grownBy w4 v.ownBlock →
        (w4.cell? ⟨w.heap.size + 1, 0, none⟩ = some v ∧ w4.frozen? ⟨w.heap.size + 1, 0, none⟩ = false) ∧ ((w4.setCell ⟨w.heap.size + 1, 0, none⟩ v').cell? ⟨w.heap.size + 1, 0, none⟩ = some v' ∧ (w4.setCell ⟨w.heap.size + 1, 0, none⟩ v').cell? ⟨w.heap.size, 0, none⟩ = some (.int .i64 (k : Int))) ∧
        (Kp (fun t => t = 51) (fun k => k = w.heap.size + 2) W0.heap.size W' (w4.setCell ⟨w.heap.size + 1, 0, none⟩ v') ∧ (Boxed (w4.setCell ⟨w.heap.size + 1, 0, none⟩ v') w.heap.size 3 (.int .i64 (k : Int)) ∧ ∃ v, (Boxed (w4.setCell ⟨w.heap.size + 1, 0, none⟩ v') (w.heap.size + 1) 47 v ∧ World.ownsRow (w4.setCell ⟨w.heap.size + 1, 0, none⟩ v') (w.heap.size + 3) 51 2 v (pre ++ [(p, q)]).length ((pre ++ [(p, q)]).flatMap rwC))) ∧ (W0.heap.size ≤ (w4.setCell ⟨w.heap.size + 1, 0, none⟩ v').heap.size ∧ Below w.heap.size w (w4.setCell ⟨w.heap.size + 1, 0, none⟩ v'))) := by
      intro W4 w4 v' hB4 hown hgr
      have hrow4 := ownsRow_belowW hrow hB4
      have hlow : ∀ k, v.ownBlock = some k → w.heap.size + 3 ≤ k ∧ ∃ o, W4.heap[k]? = some o ∧ Held (fun t => t = 51) o := fun k hk => by
        rcases hrow4.2 with ⟨rfl, _⟩ | ⟨g, cap, cur, rfl, hg, hh, _⟩
        · cases hk
        · cases hk
          exact ⟨hg, _, hh, _, _, _, rfl, rfl⟩
      have hkeep : ∀ k o, W4.heap[k]? = some o → k < w.heap.size + 3 → w4.heap[k]? = some o := fun k o hk hc => by
        refine (hgr.block k (Array.getElem?_eq_some_iff.1 hk).1 (fun e => ?_)).trans hk
        have := (hlow k e.symm).1
        omega
      have g0 : Boxed w4 w.heap.size 3 (.int .i64 (k : Int)) := hkeep _ _ (below_boxed hB4 h0) (by omega)
      have g1 : Boxed w4 (w.heap.size + 1) 47 v := hkeep _ _ (below_boxed hB4 h1) (by omega)
      have k0 := g0.other (B' := w.heap.size + 1) (by omega) v'
      refine ⟨⟨g1.cell, g1.frozen⟩, ⟨(g1.set v').cell, k0.cell⟩, ?_, ⟨k0, v', g1.set v', ?_⟩, ?_, ?_⟩
      · refine ((Kp.of_below hB4).trans (Kp.grown hgr (fun k hk => ?_))).trans (Kp.set _ (fun h => by omega) (by omega))
        obtain ⟨h5, h6⟩ := hlow k hk
        exact ⟨by omega, .inr h6⟩
      · rw [List.length_append, flat_snocW]
        exact ownsRow_setCell_below (a := ⟨w.heap.size + 1, 0, none⟩) hown (show w.heap.size + 1 < w.heap.size + 3 by omega) v'
      · have := hB4.size; have := hgr.size; simp [World.setCell]; omega
      · refine Below.setCell (p := ⟨w.heap.size + 1, 0, none⟩) ?_ (Nat.le_add_right _ _) _
        refine (bseq hB hB4).grown hgr (by have := hB4.size; have := hB.size; omega) (fun k hk => ?_)
        have := (hlow k hk).1
        omega
    have FIN := hide fin
    have HROW := hide hrow
    have HPL := hide (show pre.length ≤ 1099511627776 by omega)
    have HSZ := hide (show w.heap.size + 3 ≤ W'.heap.size by omega)
    have c1 := h1.cell
    have HPK := hide hpk
    have hkI : (k : Int) ≤ 2199023255552 := by omega
    have hpI : (pre.length : Int) ≤ 1099511627776 := by omega
    clear fin hrow hpx hget h0 h1 hB hll hs hsz hB0 b0 b1 b5 hpl hk2 hpk hk
    by_cases hkk : pre.length + 1 = k
    · have hge : ((k : Int) ≤ (pre.length : Int) + 1) := by omega
      have HKK := hide hkk
      clear hkk
      gi_wp2_with (gi_at_builtin; refine wpListIn_append_own _ rfl _ _ 47 rfl (w.heap.size + 3) 51 i0 (.agg #[.int .i64 0, .string ⟨#[]⟩]) 2 24 Tryz.underlying47 hi hz0 hz1 hz2 rfl (by decide) v pre.length (pre.flatMap rwC) rfl (HROW.out.alloc _) ⟨W'.heap.size, 0, none⟩ 1 1 [.int .i64 (p : Int), .string q] rfl rfl (cell2_newW _ _ _ _) (by simp [Value.oneCell']) (by simp only [maxLen]; have := HPL.out; omega) (by have := HPL.out; omega) (by have := HSZ.out; simp; omega) ?_; intro v' w4 hown' hgrow' _; obtain ⟨g', cap', rfl⟩ := row_valW hown'; obtain ⟨⟨d1, df1⟩, ⟨d2, d0⟩, hfin⟩ := FIN.out _ w4 _ ((Below.refl _ W').alloc (Nat.le_refl _) _) hown' hgrow'; replace hfin := hide hfin)
      obtain ⟨f1, f2, f3, f4⟩ := hfin.out
      exact ⟨f1, ⟨rfl, f2.2⟩, by simp; exact HKK.out, f4⟩
    · have hge : ((pre.length : Int) + 1 < (k : Int)) := by have := HPK.out; omega
      have HKK := hide hkk
      clear hkk
      gi_wp2_with (gi_at_builtin; refine wpListIn_append_own _ rfl _ _ 47 rfl (w.heap.size + 3) 51 i0 (.agg #[.int .i64 0, .string ⟨#[]⟩]) 2 24 Tryz.underlying47 hi hz0 hz1 hz2 rfl (by decide) v pre.length (pre.flatMap rwC) rfl (HROW.out.alloc _) ⟨W'.heap.size, 0, none⟩ 1 1 [.int .i64 (p : Int), .string q] rfl rfl (cell2_newW _ _ _ _) (by simp [Value.oneCell']) (by simp only [maxLen]; have := HPL.out; omega) (by have := HPL.out; omega) (by have := HSZ.out; simp; omega) ?_; intro v' w4 hown' hgrow' _; obtain ⟨g', cap', rfl⟩ := row_valW hown'; obtain ⟨⟨d1, df1⟩, ⟨d2, d0⟩, hfin⟩ := FIN.out _ w4 _ ((Below.refl _ W').alloc (Nat.le_refl _) _) hown' hgrow'; replace hfin := hide hfin)
      obtain ⟨f1, f2, f3, f4⟩ := hfin.out
      exact ⟨f1, f2, by have := HPK.out; have := HKK.out; simp; omega, f3, f4⟩
  case hdone =>
    rintro D W' hD ⟨⟨h0, v, h1, hrow⟩, hpk, hsz', hB⟩ hK
    obtain ⟨hsl, hBf⟩ := KEY.out D _ v W' (by omega) hrow (List.take_of_length_le (by omega)).symm hB hK
    have c1 := h1.cell
    have HSL := hide hsl
    have HBF := hide hBf
    clear h0 h1 hrow hB hsl hBf
    gi_wp2
    refine ⟨by simp, .inl ⟨_, _, rfl, run_takeDeferred hK, ?_⟩⟩
    exact ⟨_, results_tmp rfl _ _ _, v, rfl, HSL.out, HBF.out⟩
  case hstop =>
    rintro D c pre W' hD hpre ⟨⟨rfl, v, h1, hrow⟩, hpk, hB⟩ hK
    obtain ⟨hsl, hBf⟩ := KEY.out D _ v W' (by omega) hrow (by rw [← hpk]; exact pre_takeW hpre) hB hK
    have c1 := h1.cell
    have HSL := hide hsl
    have HBF := hide hBf
    clear h1 hrow hB hsl hBf
    gi_wp2
    refine ⟨by simp, .inl ⟨_, _, rfl, run_takeDeferred hK, ?_⟩⟩
    exact ⟨_, results_tmp rfl _ _ _, v, rfl, HSL.out, HBF.out⟩
end Go.Proofs.YtaljllbfedfpoaaGreatDoor
namespace Go.Proofs.YtaljllbfedfpoaaGreatDoor
open Go.RowKit Go.Shelf
set_option linter.unusedVariables false

set_option maxHeartbeats 4000000 in
theorem rend_w (s : ByteArray) (i : Nat) (w : World) (hi : i < s.size) (hs : (s.size : Int) ≤ 4611686018427387904) (t : ByteArray) (ht : s.extract i s.size = t) (b0 b1 b2 p : Nat) (h0 : 0 < t.size) (h0' : (t[0]'h0).toNat = b0) (h1 : (h : 1 < t.size) → (t[1]'h).toNat = b1) (h2 : (h : 2 < t.size) → (t[2]'h).toNat = b2)
    (hp : (h : i ≠ 0) → (s[i - 1]'(by omega)).toNat = p) (k1 : ¬ 1 < t.size → b1 = 0) (k2 : ¬ 2 < t.size → b2 = 0) (kp : i = 0 → p = 0) (bb : Bool) (hbb : (bb = true ∧ endB p b0 b1 b2 ≠ 0) ∨ (bb = false ∧ endB p b0 b1 b2 = 0)) :
    Calls Tryz.prog 68 #[.string s, .int .i64 (i : Int)] w fun e w' => ∃ m : Int, e = .returned (.tuple #[.int .i64 m, .bool bb]) ∧ (endB p b0 b1 b2 ≠ 0 → m = (endB p b0 b1 b2 : Nat)) ∧ Below w.heap.size w w' := by
  have hiI : (i : Int) < (s.size : Int) := by omega
  have hc := endB_cases p b0 b1 b2
  generalize endB p b0 b1 b2 = en at *
  have HC := hide hc
  have K1 := hide k1
  have K2 := hide k2
  have KP := hide kp
  have HP := hide hp
  have H1 := hide h1
  have H2 := hide h2
  have HBB := hide hbb
  clear hc k1 k2 kp hp h1 h2 hbb
  by_cases b10 : b0 = 10
  · have e13 : ((b0 : Int) == 13) = false := by simp [b10]
    have e10 : ((b0 : Int) == 10) = true := by simp [b10]
    by_cases hz : i = 0
    · have hz0 : ((i : Int) == 0) = true := by simp [hz]
      have HZ := hide hz
      clear hz
      by_cases l1 : 1 < t.size
      · have l1I : (1 : Int) < (t.size : Int) := by omega
        go_enter Tryz.func68, Tryz.ntmps68
        go_wp2
        all_goals (try go_region)
        all_goals go_wp2
        all_goals go_ret2
        all_goals refine ⟨_, ret_ib rfl ?_, ?_, ?_⟩
        all_goals first | exact Below.refl _ _ | exact (Below.refl _ _).drew | skip
        all_goals (try simp only [beq_iff_eq, beq_eq_false_iff_ne, ne_eq] at *)
        all_goals have hc := HC.out
        all_goals have hk1 := K1.out
        all_goals have hk2 := K2.out
        all_goals have hkp := KP.out HZ.out
        all_goals first | (intro _; omega) | (rcases HBB.out with ⟨h, h'⟩ | ⟨h, h'⟩ <;> first | exact h.symm | (exfalso; omega))
      · have l1I : (t.size : Int) ≤ 1 := by omega
        go_enter Tryz.func68, Tryz.ntmps68
        go_wp2
        all_goals (try go_region)
        all_goals go_wp2
        all_goals go_ret2
        all_goals refine ⟨_, ret_ib rfl ?_, ?_, ?_⟩
        all_goals first | exact Below.refl _ _ | exact (Below.refl _ _).drew | skip
        all_goals (try simp only [beq_iff_eq, beq_eq_false_iff_ne, ne_eq] at *)
        all_goals have hc := HC.out
        all_goals have hk1 := K1.out
        all_goals have hk2 := K2.out
        all_goals have hkp := KP.out HZ.out
        all_goals first | (intro _; omega) | (rcases HBB.out with ⟨h, h'⟩ | ⟨h, h'⟩ <;> first | exact h.symm | (exfalso; omega))
    · obtain ⟨j, rfl⟩ : ∃ j, i = j + 1 := ⟨i - 1, by omega⟩
      have hpj : (s[j]'(by omega)).toNat = p := HP.out (by omega)
      have hj0 : ((j : Int) + 1 == 0) = false := by simp; omega
      have hwj : IntKind.i64.wrap (j : Int) = (j : Int) := by rw [IntKind.wrap_i64]; omega
      have hjs : j < s.size := by omega
      have hjI : (j : Int) < (s.size : Int) := by omega
      by_cases p13 : p = 13
      · have hq : ((p : Int) == 13) = true := by simp [p13]
        have hq' : ((p : Int) != 13) = false := by simp [p13]
        by_cases l1 : 1 < t.size
        · have l1I : (1 : Int) < (t.size : Int) := by omega
          go_enter Tryz.func68, Tryz.ntmps68
          go_wp2
          all_goals (try go_region)
          all_goals go_wp2
          all_goals go_ret2
          all_goals refine ⟨_, ret_ib rfl ?_, ?_, ?_⟩
          all_goals first | exact Below.refl _ _ | exact (Below.refl _ _).drew | skip
          all_goals (try simp only [beq_iff_eq, beq_eq_false_iff_ne, ne_eq] at *)
          all_goals have hc := HC.out
          all_goals have hk1 := K1.out
          all_goals have hk2 := K2.out
          all_goals have hkp := KP.out
          all_goals first | (intro _; omega) | (rcases HBB.out with ⟨h, h'⟩ | ⟨h, h'⟩ <;> first | exact h.symm | (exfalso; omega))
        · have l1I : (t.size : Int) ≤ 1 := by omega
          go_enter Tryz.func68, Tryz.ntmps68
          go_wp2
          all_goals (try go_region)
          all_goals go_wp2
          all_goals go_ret2
          all_goals refine ⟨_, ret_ib rfl ?_, ?_, ?_⟩
          all_goals first | exact Below.refl _ _ | exact (Below.refl _ _).drew | skip
          all_goals (try simp only [beq_iff_eq, beq_eq_false_iff_ne, ne_eq] at *)
          all_goals have hc := HC.out
          all_goals have hk1 := K1.out
          all_goals have hk2 := K2.out
          all_goals have hkp := KP.out
          all_goals first | (intro _; omega) | (rcases HBB.out with ⟨h, h'⟩ | ⟨h, h'⟩ <;> first | exact h.symm | (exfalso; omega))
      · have hq : ((p : Int) == 13) = false := by simp; omega
        have hq' : ((p : Int) != 13) = true := by simp; omega
        by_cases l1 : 1 < t.size
        · have l1I : (1 : Int) < (t.size : Int) := by omega
          go_enter Tryz.func68, Tryz.ntmps68
          go_wp2
          all_goals (try go_region)
          all_goals go_wp2
          all_goals go_ret2
          all_goals refine ⟨_, ret_ib rfl ?_, ?_, ?_⟩
          all_goals first | exact Below.refl _ _ | exact (Below.refl _ _).drew | skip
          all_goals (try simp only [beq_iff_eq, beq_eq_false_iff_ne, ne_eq] at *)
          all_goals have hc := HC.out
          all_goals have hk1 := K1.out
          all_goals have hk2 := K2.out
          all_goals have hkp := KP.out
          all_goals first | (intro _; omega) | (rcases HBB.out with ⟨h, h'⟩ | ⟨h, h'⟩ <;> first | exact h.symm | (exfalso; omega))
        · have l1I : (t.size : Int) ≤ 1 := by omega
          go_enter Tryz.func68, Tryz.ntmps68
          go_wp2
          all_goals (try go_region)
          all_goals go_wp2
          all_goals go_ret2
          all_goals refine ⟨_, ret_ib rfl ?_, ?_, ?_⟩
          all_goals first | exact Below.refl _ _ | exact (Below.refl _ _).drew | skip
          all_goals (try simp only [beq_iff_eq, beq_eq_false_iff_ne, ne_eq] at *)
          all_goals have hc := HC.out
          all_goals have hk1 := K1.out
          all_goals have hk2 := K2.out
          all_goals have hkp := KP.out
          all_goals first | (intro _; omega) | (rcases HBB.out with ⟨h, h'⟩ | ⟨h, h'⟩ <;> first | exact h.symm | (exfalso; omega))
  · have e10 : ((b0 : Int) == 10) = false := by simp; omega
    clear HP
    by_cases l1 : 1 < t.size
    · have l1I : (1 : Int) < (t.size : Int) := by omega
      have g1 := H1.out l1
      by_cases l2 : 2 < t.size
      · have l2I : (2 : Int) < (t.size : Int) := by omega
        have g2 := H2.out l2
        go_enter Tryz.func68, Tryz.ntmps68
        go_wp2
        all_goals go_ret2
        all_goals refine ⟨_, ret_ib rfl ?_, ?_, ?_⟩
        all_goals first | exact Below.refl _ _ | exact (Below.refl _ _).drew | skip
        all_goals (try simp only [beq_iff_eq, beq_eq_false_iff_ne, ne_eq] at *)
        all_goals have hc := HC.out
        all_goals have hk1 := K1.out
        all_goals have hk2 := K2.out
        all_goals have hkp := KP.out
        all_goals first | (intro _; omega) | (rcases HBB.out with ⟨h, h'⟩ | ⟨h, h'⟩ <;> first | exact h.symm | (exfalso; omega))
      · have l2I : (t.size : Int) ≤ 2 := by omega
        go_enter Tryz.func68, Tryz.ntmps68
        go_wp2
        all_goals go_ret2
        all_goals refine ⟨_, ret_ib rfl ?_, ?_, ?_⟩
        all_goals first | exact Below.refl _ _ | exact (Below.refl _ _).drew | skip
        all_goals (try simp only [beq_iff_eq, beq_eq_false_iff_ne, ne_eq] at *)
        all_goals have hc := HC.out
        all_goals have hk1 := K1.out
        all_goals have hk2 := K2.out
        all_goals have hkp := KP.out
        all_goals first | (intro _; omega) | (rcases HBB.out with ⟨h, h'⟩ | ⟨h, h'⟩ <;> first | exact h.symm | (exfalso; omega))
    · have l1I : (t.size : Int) ≤ 1 := by omega
      have l2I : (t.size : Int) ≤ 2 := by omega
      go_enter Tryz.func68, Tryz.ntmps68
      go_wp2
      all_goals go_ret2
      all_goals refine ⟨_, ret_ib rfl ?_, ?_, ?_⟩
      all_goals first | exact Below.refl _ _ | exact (Below.refl _ _).drew | skip
      all_goals (try simp only [beq_iff_eq, beq_eq_false_iff_ne, ne_eq] at *)
      all_goals have hc := HC.out
      all_goals have hk1 := K1.out
      all_goals have hk2 := K2.out
      all_goals have hkp := KP.out
      all_goals first | (intro _; omega) | (rcases HBB.out with ⟨h, h'⟩ | ⟨h, h'⟩ <;> first | exact h.symm | (exfalso; omega))

theorem rend_bad (s : ByteArray) (n : Int) (w : World) (hb : n < 0 ∨ (s.size : Int) ≤ n) :
    Calls Tryz.prog 68 #[.string s, .int .i64 n] w fun e w' => e = .returned (.tuple #[.int .i64 0, .bool false]) ∧ w' = w := by
  by_cases h : n < 0
  · clear hb
    go_enter Tryz.func68, Tryz.ntmps68
    go_wp2
    go_ret2
    exact ⟨rfl, rfl⟩
  · have h2 : (s.size : Int) ≤ n := by omega
    have h3 : 0 ≤ n := by omega
    clear hb h
    go_enter Tryz.func68, Tryz.ntmps68
    go_wp2
    go_ret2
    exact ⟨rfl, rfl⟩

theorem rend_any (s : ByteArray) (n : Int) (w : World) (hs : s.size ≤ 4611686018427387904) :
    Calls Tryz.prog 68 #[.string s, .int .i64 n] w fun e w' => ∃ m : Int, e = .returned (.tuple #[.int .i64 m, .bool (endV (bl s) n).2]) ∧ ((endV (bl s) n).2 = true → m = (endV (bl s) n).1) ∧ Below w.heap.size w w' := by
  by_cases h : 0 ≤ n ∧ n < (s.size : Int)
  · obtain ⟨i, rfl⟩ : ∃ i : Nat, n = (i : Int) := ⟨n.toNat, by omega⟩
    have e : endV (bl s) (i : Int) = ((endW (bl s) i : Int), decide (endW (bl s) i ≠ 0)) := by unfold endV; rw [bl_len, if_pos h, Int.toNat_natCast]
    rw [e]
    have hi : i < s.size := by omega
    have hts : (s.extract i s.size).size = s.size - i := by simp
    have gb : ∀ k (hk : k < (s.extract i s.size).size), ((s.extract i s.size)[k]'hk).toNat = by' (bl s) (i + k) := fun k hk => by
      rw [← by'_get, ← by'_drop]
      have := bl_from s i
      unfold bl at this ⊢
      rw [this]
    have gz : ∀ k, ¬ k < (s.extract i s.size).size → by' (bl s) (i + k) = 0 := fun k hk => by'_beyond _ _ (by rw [bl_len]; omega)
    refine (rend_w s i w hi (by omega) _ rfl (by' (bl s) i) (by' (bl s) (i + 1)) (by' (bl s) (i + 2)) (pv (bl s) i) (by omega) (gb 0 _) (fun h => gb 1 h) (fun h => gb 2 h) ?_ (gz 1) (gz 2) ?_ (decide (endW (bl s) i ≠ 0)) ?_).mono ?_
    · intro h0
      unfold pv
      rw [if_neg h0]
      exact (by'_get s (i - 1) (by omega)).symm
    · intro h0; unfold pv; rw [if_pos h0]
    · show _ ∧ endW (bl s) i ≠ 0 ∨ _ ∧ endW (bl s) i = 0
      by_cases h0 : endW (bl s) i = 0
      · right; simp [h0]
      · left; simp [h0]
    · rintro e w' ⟨m, rfl, hm, hB⟩
      exact ⟨m, rfl, fun h => hm (of_decide_eq_true h), hB⟩
  · have e : endV (bl s) n = (0, false) := by unfold endV; rw [bl_len, if_neg h]
    rw [e]
    refine (rend_bad s n w (by omega)).mono ?_
    rintro e w' ⟨rfl, rfl⟩
    exact ⟨0, rfl, (fun h => by cases h), Below.refl _ _⟩
end Go.Proofs.YtaljllbfedfpoaaGreatDoor
namespace Go.Proofs.YtaljllbfedfpoaaGreatDoor
open Go.RowKit Go.Shelf
set_option linter.unusedVariables false

theorem Tryz.infoL : (Tryz.prog.info? 92).map (fun i => (i.zero, i.size, i.bytes)) = some (some (.agg #[.int .i64 0, .int .i64 0, .int .i64 0]), 3, 24) := by kernel_rfl
/-- A line as three cells. -/
def lnC (x : Nat × Nat × Nat) : List Value := [.int .i64 (x.1 : Int), .int .i64 (x.2.1 : Int), .int .i64 (x.2.2 : Int)]
theorem lnC_len (xs : List (Nat × Nat × Nat)) : (xs.flatMap lnC).length = xs.length * 3 := by
  induction xs with
  | nil => rfl
  | cons x xs ih => simp [List.flatMap_cons, ih, lnC]; omega

theorem ownsRow_below' {W W' : World} {base : Nat} {e : TypeId} {size : Nat} {v : Value} {k : Nat} {xs : List Value} (h : W.ownsRow base e size v k xs) (hb : Below W.heap.size W W') : W'.ownsRow base e size v k xs := by
  refine ⟨h.1, ?_⟩
  rcases h.2 with h2 | ⟨g, cap, cur, hv, hg, hh, r⟩
  · exact .inl h2
  · exact .inr ⟨g, cap, cur, hv, hg, (hb.block g (Array.getElem?_eq_some_iff.1 hh).1).trans hh, r⟩
theorem cell3_new (W : World) (t : TypeId) (a b c : Value) : ∀ j u, [a, b, c][j]? = some u → (W.alloc (.cells #[a, b, c] t)).cell? ((⟨W.heap.size, 0, none⟩ : Addr).add j) = some u := by
  intro j u hj
  match j, hj with
  | 0, hj => simp at hj; subst hj; simp [Addr.add]
  | 1, hj => simp at hj; subst hj; simp [Addr.add]
  | 2, hj => simp at hj; subst hj; simp [Addr.add]
  | n + 3, hj => simp at hj
theorem flat_snoc (xs : List (Nat × Nat × Nat)) (x : Nat × Nat × Nat) : (xs ++ [x]).flatMap lnC = xs.flatMap lnC ++ [.int .i64 (x.1 : Int), .int .i64 (x.2.1 : Int), .int .i64 (x.2.2 : Int)] := by
  rw [List.flatMap_append]; simp [lnC]

set_option maxHeartbeats 4000000 in
theorem rall_any (s : ByteArray) (w : World) (hs : s.size ≤ 1099511627776) :
    Calls Tryz.prog 52 #[.string s] w fun e w' => ∃ v, e = .returned v ∧ w'.ownsRow w.heap.size 92 3 v (Ls (bl s)).length ((Ls (bl s)).flatMap lnC) ∧ Below w.heap.size w w' := by
  obtain ⟨i0, hi, hz0, hz1, hz2⟩ := info_parts Tryz.infoL
  have kr := fun n w' => rend_any s n w' (by omega)
  have KR := hide kr
  clear kr
  have hsI : (s.size : Int) ≤ 1099511627776 := by omega
  have HS := hide hs
  clear hs
  go_enter Tryz.func52, Tryz.ntmps52
  go_wp2
  go_loopw [3, 4, 5] (fun v f q w' => ∃ i : Nat, q = .int .i64 (i : Int) ∧ f = .int .i64 (((sofar (bl s) i).1 : Nat) : Int) ∧ i ≤ s.size ∧ w'.ownsRow w.heap.size 92 3 v (sofar (bl s) i).2.length ((sofar (bl s) i).2.flatMap lnC) ∧ Below w.heap.size w w') (fun _ _ q _ => (s.size - intOf q).toNat)
  case atStart => exact ⟨0, rfl, rfl, by omega, World.ownsRow_nil _ _ _ _, Below.refl _ _⟩
  case round =>
    obtain ⟨i, rfl, rfl, hin, hrow, hB⟩ := hrel
    have hfr := (sofar_inv (bl s) i).2.1
    have hlen := sofar_len (bl s) i
    rw [bl_len] at hfr
    generalize hso : sofar (bl s) i = so at *
    obtain ⟨fr, out⟩ := so
    simp only at hrow hfr hlen
    have hlenI : Hid (out.length ≤ 1099511627776) := show _ ≤ _ by have := HS.out; omega
    have HSO := hide hso
    have HB := hide hB
    have HR := hide hrow
    clear hso hB hrow
    by_cases hlt : i < s.size
    · have hltI : (i : Int) < (s.size : Int) := by omega
      have ke := fun w' => KR.out (i : Int) w'
      have hev : endV (bl s) (i : Int) = ((endW (bl s) i : Int), decide (endW (bl s) i ≠ 0)) := by unfold endV; rw [bl_len, if_pos ⟨by omega, hltI⟩, Int.toNat_natCast]
      rw [hev] at ke
      have hend := @endW_end (bl s) i
      have hsk := @sofar_no (bl s) i
      have hsy := @sofar_end (bl s) i
      rw [bl_len] at hend
      by_cases he : endW (bl s) i = 0
      · have hd : decide (endW (bl s) i ≠ 0) = false := by simp [he]
        rw [hd] at ke
        have hnx := hsk he
        have KE := hide ke
        have HNX := hide hnx
        clear ke hev hend hsk hsy hd hnx he
        go_wp2_with (go_at_call 68; refine (KE.out _).mono ?_; rintro e w2 ⟨m, rfl, hm, hB2⟩)
        go_roundw
        case rel => exact ⟨i + 1, by go_num, by rw [HNX.out, HSO.out], by omega, by rw [HNX.out, HSO.out]; exact ownsRow_below' HR.out hB2, bseq HB.out hB2⟩
        case measure => simp [intOf]; omega
      · have hd : decide (endW (bl s) i ≠ 0) = true := by simp [he]
        rw [hd] at ke
        have hend' := hend he
        have hnx : sofar (bl s) (i + endW (bl s) i) = (i + endW (bl s) i, out ++ [(fr, i, endW (bl s) i)]) := by rw [hsy he]; unfold stp; rw [HSO.out]
        generalize endW (bl s) i = en at *
        have hendI : (i : Int) + (en : Int) ≤ (s.size : Int) := by omega
        have hen0 : 0 < en := by omega
        have KE := hide ke
        have HNX := hide hnx
        clear ke hev hend hsk hsy hd hnx he
        go_wp2_with (first | (go_at_call 68; refine (KE.out _).mono ?_; rintro e w2 ⟨m, rfl, hm, hB2⟩; obtain rfl := hm (by first | exact rfl | trivial); have hr2 := ownsRow_below' HR.out hB2) | (at_builtin; refine wpList_append_own_at _ rfl _ _ 87 rfl w.heap.size 92 i0 (.agg #[.int .i64 0, .int .i64 0, .int .i64 0]) 3 24 Tryz.underlying87 hi hz0 hz1 hz2 rfl (by decide) _ _ _ rfl (hr2.alloc _) ⟨w2.heap.size, 0, none⟩ 1 1 [.int .i64 (fr : Int), .int .i64 (i : Int), .int .i64 (en : Int)] rfl rfl (cell3_new _ _ _ _ _) (by simp [Value.oneCell']) (by have := hlenI.out; unfold maxLen; omega) (by have := hlenI.out; omega) (by have := HB.out.size; have := hB2.size; simp; omega) ?_; intro v' w3 hown' hgrow _ _))
        go_roundw
        case rel =>
          refine ⟨i + en, by go_num, ?_, by omega, ?_, ?_⟩
          · rw [HNX.out]; go_num
          · rw [HNX.out]
            simp only
            rw [flat_snoc, List.length_append, List.length_singleton]
            exact hown'
          · refine ((bseq HB.out hB2).alloc (by have := HB.out.size; have := hB2.size; omega) _).grown hgrow (by have := HB.out.size; have := hB2.size; simp; omega) (fun k e => ?_)
            exact (hr2.lt k e).1
        case measure => simp [intOf]; omega
    · have hltI : (s.size : Int) ≤ (i : Int) := by omega
      have hie : i = s.size := by omega
      go_wp2_with (at_builtin; refine wpList_append_own_at _ rfl _ _ 87 rfl w.heap.size 92 i0 (.agg #[.int .i64 0, .int .i64 0, .int .i64 0]) 3 24 Tryz.underlying87 hi hz0 hz1 hz2 rfl (by decide) _ _ _ rfl (HR.out.alloc _) ⟨_, 0, none⟩ 1 1 [.int .i64 (fr : Int), .int .i64 (s.size : Int), .int .i64 0] rfl rfl (cell3_new _ _ _ _ _) (by simp [Value.oneCell']) (by have := hlenI.out; unfold maxLen; omega) (by have := hlenI.out; omega) (by have := HB.out.size; simp; omega) ?_; intro v' w3 hown' hgrow _ _)
      go_ret
      have hLs : Ls (bl s) = out ++ [(fr, s.size, 0)] := by
        unfold Ls
        rw [bl_len, ← hie, HSO.out]
      refine ⟨v', rfl, ?_, ?_⟩
      · rw [hLs, flat_snoc, List.length_append, List.length_singleton]
        exact hown'
      · refine (HB.out.alloc HB.out.size _).grown hgrow (by have := HB.out.size; simp; omega) (fun k e => ?_)
        exact (HR.out.lt k e).1
end Go.Proofs.YtaljllbfedfpoaaGreatDoor
namespace Go.Proofs.YtaljllbfedfpoaaGreatDoor
open Go.RowKit Go.Shelf
set_option linter.unusedVariables false

set_option maxHeartbeats 1000000 in
theorem rblankl_any (c : Nat) (w : World) : Calls Tryz.prog 33 #[.int .u8 (c : Int)] w fun e w' => e = .returned (.bool (blankC c)) ∧ w' = w := by
  obtain ⟨R, hR⟩ : ∃ R, blankC c = R := ⟨_, rfl⟩
  rw [hR]
  have HR := hide hR
  clear hR
  go_enter Tryz.func33, Tryz.ntmps33
  go_wp2
  all_goals go_ret
  all_goals refine ⟨?_, rfl⟩
  all_goals rw [← HR.out]
  all_goals refine congrArg (fun b => Ending.returned (Value.bool b)) ?_
  all_goals first | (subst_vars; rfl) | (rw [Bool.eq_iff_iff]; simp only [blankC, Bool.or_eq_true, beq_iff_eq, true_iff]; omega) | (simp [blankC, *])
theorem flatL_get (ts : List (Nat × Nat × Nat)) (i j : Nat) (x : Nat × Nat × Nat) (hx : ts[i]? = some x) (hj : j < 3) : (ts.flatMap lnC)[i * 3 + j]? = (lnC x)[j]? := by
  induction ts generalizing i with
  | nil => simp at hx
  | cons y ys ih =>
    rw [List.flatMap_cons]
    cases i with
    | zero =>
      simp only [List.getElem?_cons_zero, Option.some.injEq] at hx
      subst hx
      rw [List.getElem?_append_left (by simp [lnC]; omega)]
      congr 1
      omega
    | succ i =>
      simp only [List.getElem?_cons_succ] at hx
      rw [List.getElem?_append_right (by simp [lnC]; omega), ← ih i hx]
      congr 1
      simp [lnC]
      omega
/-- What a row of lines holds. -/
def LnK (W : World) (v : Value) (xs : List (Nat × Nat × Nat)) : Prop := ∃ g cap, v = .slice (some ⟨g, 0, none⟩) xs.length cap ∧ g < W.heap.size ∧ ∀ (i : Nat) x, xs[i]? = some x → W.cell? ⟨g, i * 3, none⟩ = some (.int .i64 (x.1 : Int)) ∧ W.cell? ⟨g, i * 3 + 1, none⟩ = some (.int .i64 (x.2.1 : Int))
theorem LnK.of {W : World} {base : Nat} {v : Value} {xs : List (Nat × Nat × Nat)} (h : W.ownsRow base 92 3 v xs.length (xs.flatMap lnC)) (hp : 0 < xs.length) : LnK W v xs := by
  rcases h.2 with ⟨_, h2⟩ | ⟨g, cap, cur, hv, hg, hh, hnc, hcap, hs, hc⟩
  · omega
  · refine ⟨g, cap, hv, (Array.getElem?_eq_some_iff.1 hh).1, fun i x hx => ?_⟩
    have hi : i < xs.length := (List.getElem?_eq_some_iff.1 hx).1
    have key : ∀ j (u : Value), j < 3 → (lnC x)[j]? = some u → W.cell? ⟨g, i * 3 + j, none⟩ = some u := by
      intro j u hj hu
      have h1 := flatL_get xs i j x hx hj
      rw [hu, ← hc, List.getElem?_take, if_pos (by omega)] at h1
      simp only [World.cell?, hh]
      simpa using h1
    exact ⟨key 0 _ (by omega) rfl, key 1 _ (by omega) rfl⟩
theorem LnK.below {W W' : World} {v : Value} {xs : List (Nat × Nat × Nat)} (h : LnK W v xs) (hb : Below W.heap.size W W') : LnK W' v xs := by
  obtain ⟨g, cap, hv, hg, hc⟩ := h
  refine ⟨g, cap, hv, Nat.lt_of_lt_of_le hg hb.size, fun i x hx => ?_⟩
  obtain ⟨h1, h2⟩ := hc i x hx
  exact ⟨(hb.cell (p := ⟨g, i * 3, none⟩) hg).trans h1, (hb.cell (p := ⟨g, i * 3 + 1, none⟩) hg).trans h2⟩
theorem says_end {t : ByteArray} (h : skp blankC (bl t) = t.size) : saysV t = false := by unfold saysV; rw [decide_eq_true h]; rfl
theorem says_at {t : ByteArray} {k : Nat} (h : skp blankC (bl t) = k) (hk : k < t.size) : saysV t = !decide (by' (bl t) k = 35) := by
  unfold saysV
  rw [h, decide_eq_false (by omega)]
  unfold isAt
  rw [decide_eq_true hk]
  simp
set_option maxRecDepth 100000 in
set_option maxHeartbeats 2000000 in
theorem rlines_any (s : ByteArray) (w : World) (hs : s.size ≤ 1099511627776) :
    Calls Tryz.prog 21 #[.string s] w fun e w' => ∃ v, e = .returned v ∧ RowW w' w.heap.size v (SLs s) ∧ Below w.heap.size w w' := by
  obtain ⟨i0, hi, hz0, hz1, hz2⟩ := info_parts Tryz.infoRw
  have ka := fun W => rall_any s W hs
  have hlp := Ls_pos (bl s)
  have hll := Ls_len (bl s)
  have hmem : ∀ x ∈ Ls (bl s), x.1 ≤ x.2.1 ∧ x.2.1 ≤ s.size := fun x hx => by
    have := Ls_mem hx
    rw [bl_len] at this
    omega
  rw [bl_len] at hll
  have KA := hide ka
  have HM := hide hmem
  unfold SLs
  generalize Ls (bl s) = L at *
  have hLI : (L.length : Int) ≤ 1099511627777 := by omega
  clear ka hmem
  go_enter Tryz.func21, Tryz.ntmps21
  go_wp2_with (go_at_call 52; refine (KA.out _).mono ?_; rintro e x1 ⟨v1, rfl, hown1, hb1⟩; obtain ⟨g1, cap1, rfl, hlk⟩ : ∃ g cap, v1 = .slice (some ⟨g, 0, none⟩) L.length cap ∧ LnK x1 v1 L := (by obtain ⟨g, cap, hv, r⟩ := LnK.of hown1 hlp; exact ⟨g, cap, hv, g, cap, hv, r⟩); have HLK := hide hlk; have HB1 := hide hb1; clear hown1 hb1 hlk)
  go_loopw [4, 5] (fun v i wr => ∃ k : Nat, i = .int .i64 (k : Int) ∧ k ≤ L.length ∧ RowW wr x1.heap.size v (told s (L.take k)) ∧ Below w.heap.size w wr ∧ Below x1.heap.size x1 wr) (fun _ i _ => L.length - (intOf i).toNat)
  case atStart => exact ⟨0, rfl, Nat.zero_le _, World.ownsRow_nil _ _ _ _, HB1.out, Below.refl _ _⟩
  case round =>
    have HB1s := HB1.out.size
    clear HB1
    obtain ⟨k, rfl, hk, hrow, hB, hBx⟩ := hrel
    have hBxs := hBx.size
    obtain ⟨X, hXw⟩ : ∃ X, X = wr := ⟨_, rfl⟩
    subst hXw
    have HROW := hide hrow
    have HB := hide hB
    have HBX := hide hBx
    have hBw := hB.size
    have hlk := HLK.out.below hBx
    clear hrow hB hBx
    by_cases hlt : k < L.length
    · have hltI : (k : Int) < (L.length : Int) := by omega
      obtain ⟨x, hx⟩ : ∃ x, L[k]? = some x := ⟨_, List.getElem?_eq_getElem hlt⟩
      obtain ⟨m1, m2⟩ := HM.out x (List.mem_of_getElem? hx)
      have htk : L.take (k + 1) = L.take k ++ [x] := by rw [List.take_add_one, hx]; rfl
      have htl : (L.take k).length = k := by rw [List.length_take]; omega
      obtain ⟨g, cap, hv, hg, hc⟩ := hlk
      cases hv
      obtain ⟨c0, c1⟩ := hc k x hx
      obtain ⟨p, q, e⟩ := x
      simp only at m1 m2 c0 c1
      have hpq : (p : Int) ≤ (q : Int) := by omega
      have hqs : (q : Int) ≤ (s.size : Int) := by omega
      obtain ⟨t, ht⟩ : ∃ t, s.extract p q = t := ⟨_, rfl⟩
      have hln : lnT s (p, q, e) = t := ht
      have htz : t.size ≤ s.size := by rw [← ht, ByteArray.size_extract]; omega
      have htzI : (t.size : Int) ≤ 1099511627776 := by omega
      have htn := told_no (s := s) (pre := L.take k) (x := (p, q, e))
      have hty := told_yes (s := s) (pre := L.take k) (x := (p, q, e))
      rw [← htk, hln] at htn hty
      rw [htl] at hty
      have HTN := hide htn
      have HTY := hide hty
      have htc := told_len s (L.take k)
      rw [htl] at htc
      generalize told s (L.take k) = acc at *
      clear hx htk htl hln htn hty hc
      go_wp2_with (fail)
      go_quiet (fail)
      have hry := HROW.out.below (below_drewN (Below.refl _ X) nq)
      have hby := below_drewN HB.out nq
      have hxy := below_drewN HBX.out nq
      generalize X.drewN nq = Y at *
      have hYs := hby.size
      have hYx := hxy.size
      have HRY := hide hry
      have HBY := hide hby
      have HXY := hide hxy
      clear hry hby hxy HROW HB HBX c0 c1
      obtain ⟨P, hP⟩ : ∃ P, skp blankC (bl t) = P := ⟨_, rfl⟩
      have HP := hide hP
      clear hP
      go_wp2_with (fail)
      go_loopw [7] (fun i wq => ∃ j : Nat, i = .int .i64 (j : Int) ∧ j ≤ t.size ∧ j + skp blankC ((bl t).drop j) = P ∧ wq = Y) (fun i _ => t.size - (intOf i).toNat)
      case atStart => exact ⟨0, rfl, Nat.zero_le _, by rw [List.drop_zero, HP.out]; omega, rfl⟩
      case round =>
        obtain ⟨j, rfl, hjs, hj, hw⟩ := hrel
        obtain rfl := hw.symm
        by_cases hjl : j < t.size
        · have hjlI : (j : Int) < (t.size : Int) := by omega
          have hby : by' (bl t) j = (t[j]'hjl).toNat := by'_get t j hjl
          have kb := fun W => rblankl_any (t[j]'hjl).toNat W
          cases hbk : blankC (t[j]'hjl).toNat with
          | true =>
            rw [hbk] at kb
            have KB1 := hide kb
            have hst := skp_step (is := blankC) (l := bl t) (p := j) (by rw [bl_len]; exact hjl) (by rw [hby]; exact hbk)
            have HST := hide hst
            clear kb hby hbk hst
            go_wp2_with (go_at_call 33; refine (KB1.out _).mono ?_; rintro e9 z9 ⟨rfl, hz9⟩; obtain rfl := hz9.symm)
            go_roundw
            case rel => exact ⟨j + 1, by go_num, by omega, by have := HST.out; omega, trivial⟩
            case measure => simp [intOf]; omega
          | false =>
            rw [hbk] at kb
            have KB1 := hide kb
            have hst := skp_stop (is := blankC) (l := bl t) (p := j) (by rw [bl_len]; exact hjl) (by rw [hby]; exact hbk)
            rw [hst, Nat.add_zero] at hj
            have hsv := says_at (t := t) (k := j) (by rw [HP.out]; exact hj.symm) hjl
            rw [hby] at hsv
            by_cases h35 : (t[j]'hjl).toNat = 35
            · rw [decide_eq_true h35] at hsv
              have HSV := hide (show saysV t = false from hsv)
              have h35I : (((t[j]'hjl).toNat : Int) != 35) = false := by rw [h35]; rfl
              clear kb hby hbk hst hsv h35 hj
              go_wp2_with (go_at_call 33; refine (KB1.out _).mono ?_; rintro e9 z9 ⟨rfl, hz9⟩; obtain rfl := hz9.symm)
              go_roundw
              case rel => exact ⟨k + 1, by go_num, by omega, by rw [HTN.out HSV.out]; exact HRY.out, HBY.out, HXY.out⟩
              case measure => simp [intOf]; omega
            · rw [decide_eq_false h35] at hsv
              have HSV := hide (show saysV t = true from hsv)
              have h35I : (((t[j]'hjl).toNat : Int) != 35) = true := by rw [bne_iff_ne]; omega
              clear kb hby hbk hst hsv h35 hj
              go_wp2_with (first | (go_at_call 33; refine (KB1.out _).mono ?_; rintro e9 z9 ⟨rfl, hz9⟩; obtain rfl := hz9.symm) | (at_builtin; refine wpList_append_own_at _ rfl _ _ 47 rfl x1.heap.size 51 i0 (.agg #[.int .i64 0, .string ⟨#[]⟩]) 2 24 Tryz.underlying47 hi hz0 hz1 hz2 rfl (by decide) u4 acc.length (acc.flatMap rwC) rfl (HRY.out.alloc _) ⟨Y.heap.size, 0, none⟩ 1 1 [.int .i64 ((k : Int) + 1), .string t] rfl rfl (cell2_newW _ _ _ _) (by simp [Value.oneCell']) (by unfold maxLen; omega) (by omega) (by simp; omega) ?_; intro v5 w5 hown5 hgrow5 _ _))
              go_roundw
              case rel =>
                refine ⟨k + 1, by go_num, by omega, ?_, ?_, ?_⟩
                · rw [HTY.out HSV.out]
                  unfold RowW
                  rw [flat_snocW, List.length_append, List.length_singleton, show ((k + 1 : Nat) : Int) = (k : Int) + 1 by omega]
                  exact hown5
                · exact (HBY.out.alloc HBY.out.size _).grown hgrow5 (by simp; omega) (fun k e => by have := (HRY.out.lt k e).1; have := HB1s; omega)
                · exact (HXY.out.alloc HXY.out.size _).grown hgrow5 (by have := HXY.out.size; simp; omega) (fun k e => (HRY.out.lt k e).1)
              case measure => simp [intOf]; omega
        · have hge2 : (t.size : Int) ≤ (j : Int) := by omega
          have hst : skp blankC ((bl t).drop j) = 0 := by rw [List.drop_eq_nil_of_le (by rw [bl_len]; omega)]; rfl
          rw [hst, Nat.add_zero] at hj
          have hsv := says_end (t := t) (by rw [HP.out]; omega)
          have HSV := hide hsv
          have hd9 : decide ((j : Int) < (t.size : Int)) = false := decide_eq_false (by omega)
          clear hst hj hsv
          go_wp2_with (fail)
          go_roundw
          case rel => exact ⟨k + 1, by go_num, by omega, by rw [HTN.out HSV.out]; exact HRY.out, HBY.out, HXY.out⟩
          case measure => simp [intOf]; omega
    · have hge : (L.length : Int) ≤ (k : Int) := by omega
      have hr := HROW.out
      rw [List.take_of_length_le (by omega)] at hr
      have HR := hide hr
      clear hr
      go_wp2_with (fail)
      go_ret
      refine ⟨_, rfl, ⟨HR.out.1, ?_⟩, HB.out⟩
      rcases HR.out.2 with h2 | ⟨g, cap, cur, hv, hg, r⟩
      · exact .inl h2
      · exact .inr ⟨g, cap, cur, hv, by omega, r⟩
end Go.Proofs.YtaljllbfedfpoaaGreatDoor
namespace Go.Proofs.YtaljllbfedfpoaaGreatDoor
open Go.RowKit Go.Shelf
set_option linter.unusedVariables false

theorem flatW_get (ts : List (Nat × ByteArray)) (i j : Nat) (x : Nat × ByteArray) (hx : ts[i]? = some x) (hj : j < 2) : (ts.flatMap rwC)[i * 2 + j]? = (rwC x)[j]? := by
  induction ts generalizing i with
  | nil => simp at hx
  | cons y ys ih =>
    rw [List.flatMap_cons]
    cases i with
    | zero =>
      simp only [List.getElem?_cons_zero, Option.some.injEq] at hx
      subst hx
      rw [List.getElem?_append_left (by simp [rwC]; omega)]
      congr 1
      omega
    | succ i =>
      simp only [List.getElem?_cons_succ] at hx
      rw [List.getElem?_append_right (by simp [rwC]; omega), ← ih i hx]
      congr 1
      simp [rwC]
      omega
/-- What a row of told lines holds. -/
def RwK (W : World) (a : Option Addr) (xs : List (Nat × ByteArray)) : Prop := xs = [] ∨ ∃ g, a = some ⟨g, 0, none⟩ ∧ g < W.heap.size ∧ ∀ (i : Nat) x, xs[i]? = some x → W.cell? ⟨g, i * 2, none⟩ = some (.int .i64 (x.1 : Int)) ∧ W.cell? ⟨g, i * 2 + 1, none⟩ = some (.string x.2)
theorem RwK.below {W W' : World} {a : Option Addr} {xs : List (Nat × ByteArray)} (h : RwK W a xs) (hb : Below W.heap.size W W') : RwK W' a xs := by
  rcases h with h | ⟨g, ha, hg, hc⟩
  · exact .inl h
  · refine .inr ⟨g, ha, Nat.lt_of_lt_of_le hg hb.size, fun i x hx => ?_⟩
    obtain ⟨h1, h2⟩ := hc i x hx
    exact ⟨(hb.cell (p := ⟨g, i * 2, none⟩) hg).trans h1, (hb.cell (p := ⟨g, i * 2 + 1, none⟩) hg).trans h2⟩
theorem RowW.rwk {W : World} {base : Nat} {v : Value} {xs : List (Nat × ByteArray)} (h : RowW W base v xs) : ∃ a cap, v = .slice a xs.length cap ∧ RwK W a xs := by
  rcases h.2 with ⟨h1, h2⟩ | ⟨g, cap, cur, hv, hg, hh, hnc, hcap, hs, hc⟩
  · have : xs = [] := List.eq_nil_of_length_eq_zero h2
    subst this
    exact ⟨none, 0, h1, .inl rfl⟩
  · refine ⟨_, cap, hv, .inr ⟨g, rfl, (Array.getElem?_eq_some_iff.1 hh).1, fun i x hx => ?_⟩⟩
    have hi : i < xs.length := (List.getElem?_eq_some_iff.1 hx).1
    have key : ∀ j (u : Value), j < 2 → (rwC x)[j]? = some u → W.cell? ⟨g, i * 2 + j, none⟩ = some u := by
      intro j u hj hu
      have h1 := flatW_get xs i j x hx hj
      rw [hu, ← hc, List.getElem?_take, if_pos (by omega)] at h1
      simp only [World.cell?, hh]
      simpa using h1
    exact ⟨key 0 _ (by omega) rfl, key 1 _ (by omega) rfl⟩
theorem rw_cells {W : World} {a : Option Addr} {xs : List (Nat × ByteArray)} {k : Nat} {x : Nat × ByteArray} (h : RwK W a xs) (hx : xs[k]? = some x) : ∃ g, a = some ⟨g, 0, none⟩ ∧ W.cell? ⟨g, k * 2, none⟩ = some (.int .i64 (x.1 : Int)) ∧ W.cell? ⟨g, k * 2 + 1, none⟩ = some (.string x.2) := by
  rcases h with h | ⟨g, ha, hg, hc⟩
  · subst h; simp at hx
  · exact ⟨g, ha, hc k x hx⟩
theorem Tryz.noGuardRw : Tryz.prog.eqGuardType Tryz.prog.depth 51 = false := by kernel_rfl
theorem Tryz.noHeldRw : Tryz.prog.stoodInHeld 51 = false := by kernel_rfl
theorem Tryz.fieldsRw : Tryz.prog.underlying 51 = some (.struct (Tryz.prog.fieldsOf 51)) := by kernel_rfl
theorem eql_rw (k : Int) (t : ByteArray) (w : World) : (Op.equalIn 10000 51 (.agg #[.int .i64 k, .string t]) (.agg #[.int .i64 k, .string t])).run Tryz.prog w = .ok true w := by
  rw [run_equalIn_agg w 9999 51 _ _ Tryz.fieldsRw Tryz.noHeldRw]
  have u3 := Tryz.underlying3
  have u9 := Tryz.underlying9
  have a3 := Tryz.isAgg3
  have a9 := Tryz.isAgg9
  unfold Program.fieldsOf
  rw [Tryz.underlying51]
  simp [Op.eqFields, part, u3, u9, a3, a9, go_sem]
set_option maxRecDepth 100000 in
set_option maxHeartbeats 2000000 in
theorem lines_road (s : ByteArray) (f : Nat) (w : World) (hs : s.size ≤ 1048576) (hf : f < 256) (hL : LaidW w) (hZ : LaidZ w) :
    Calls Tryz.prog 9 #[.string s, .int .u8 (f : Int)] w fun e w' => e = .returned (.bool true) ∧ Below w.heap.size w w' := by
  have hn := sls_len s
  have kw := fun W => rlines_any s W (by omega)
  have ka := fun W => rows_any s ((SLs s).length + 9) W (by omega) (by omega) (by omega)
  have kb := fun W => rows_any s (1 + f) W (by omega) (by omega) (by omega)
  rw [List.take_of_length_le (by omega)] at ka
  generalize SLs s = L at *
  obtain ⟨M, hM⟩ : ∃ M, (L.take (1 + f)).length = M := ⟨_, rfl⟩
  have hMm : M = min (1 + f) L.length := by rw [← hM, List.length_take]
  have hMI : min (L.length : Int) (1 + (f : Int)) = (M : Int) := by omega
  have hMb : (M : Int) ≤ (L.length : Int) := by omega
  have hxM : ∀ k x, L[k]? = some x → k < M → (L.take (1 + f))[k]? = some x := fun k x hx hk => by rw [List.getElem?_take, if_pos (by omega)]; exact hx
  have HXM := hide hxM
  have KW := hide kw
  have KA := hide ka
  have KB := hide kb
  have HL := hide hL
  have HZ := hide hZ
  have HM := hide hM
  have g0 := Tryz.noGuardRw
  have hnI : (L.length : Int) ≤ 1048577 := by omega
  have hfI : (f : Int) < 256 := by omega
  clear kw ka kb hL hZ hM hMm hxM
  go_enter Tryz.func9, Tryz.ntmps9
  go_wp2_with (fail)
  refine (KW.out _).mono ?_
  rintro e x1 ⟨v1, rfl, hrow1, hb1⟩
  obtain ⟨a1, cap1, rfl, hk1⟩ := hrow1.rwk
  have HK1 := hide hk1
  have HB1 := hide hb1
  clear hrow1 hb1 hk1
  have hadd : ((L.length + 9 : Nat) : Int) = (L.length : Int) + 9 := by omega
  have hadf : ((1 + f : Nat) : Int) = 1 + (f : Int) := by omega
  rw [hadd] at KA
  rw [hadf] at KB
  go_wp2_with (fail)
  refine (KA.out _).mono ?_
  rintro e x2 ⟨v2, rfl, hrow2, hb2⟩
  obtain ⟨a2, cap2, rfl, hk2⟩ := hrow2.rwk
  have HK2 := hide hk2
  have HK1' := hide (HK1.out.below hb2)
  have HB2 := hide (bseq HB1.out hb2)
  clear hrow2 hb2 hk2
  go_wp2_with (fail)
  refine (KB.out _).mono ?_
  rintro e x3 ⟨v3, rfl, hrow3, hb3⟩
  obtain ⟨a3, cap3, rfl, hk3⟩ := hrow3.rwk
  have HK3 := hide hk3
  have HKa := hide (HK2.out.below hb3)
  have HKw := hide (HK1'.out.below hb3)
  have HB3 := hide (bseq HB2.out hb3)
  rw [HM.out]
  clear hrow3 hb3 hk3 HK1 HK1' HK2 KW KA KB
  go_upto_region 5 with (fail)
  go_wp2_with (fail)
  go_loopw [8] (fun i wr => ∃ k n : Nat, i = .int .i64 (k : Int) ∧ k ≤ L.length ∧ wr = x3.drewN n) (fun i _ => L.length - (intOf i).toNat)
  case atStart => exact ⟨0, 0, rfl, Nat.zero_le _, rfl⟩
  case round =>
    obtain ⟨k, n, rfl, hk, hwr⟩ := hrel
    have hbw := below_drewN (Below.refl x3.heap.size x3) n
    rw [← hwr] at hbw
    by_cases hlt : k < L.length
    · have hltI : (k : Int) < (L.length : Int) := by omega
      obtain ⟨x, hx⟩ : ∃ x, L[k]? = some x := ⟨_, List.getElem?_eq_getElem hlt⟩
      obtain ⟨b1, rfl, c0, c1⟩ := rw_cells (HKw.out.below hbw) hx
      obtain ⟨b2, rfl, d0, d1⟩ := rw_cells (HKa.out.below hbw) hx
      by_cases hlm : k < M
      · have hlmI : (k : Int) < (M : Int) := by omega
        obtain ⟨b3, rfl, e0, e1⟩ := rw_cells (HK3.out.below hbw) (HXM.out k x hx hlm)
        obtain ⟨y, t⟩ := x
        simp only at c0 c1 d0 d1 e0 e1
        have g1 := fun W => eql_rw (y : Int) t W
        have HWR := hide hwr
        clear hx hwr hbw
        go_wp2_with (fail)
        go_quiet (fail)
        go_wp2_with (fail)
        go_roundw
        case rel => exact ⟨k + 1, n + nq, by go_num, by omega, by rw [HWR.out, World.drewN_drewN]⟩
        case measure => simp [intOf]; omega
      · have hlmI : (M : Int) ≤ (k : Int) := by omega
        have hd : decide ((k : Int) < (M : Int)) = false := decide_eq_false (by omega)
        have hd' : decide (k < M) = false := decide_eq_false (by omega)
        obtain ⟨y, t⟩ := x
        simp only at c0 c1 d0 d1
        have g1 := fun W => eql_rw (y : Int) t W
        have HWR := hide hwr
        clear hx hwr hbw
        go_wp2_with (fail)
        go_quiet (fail)
        go_wp2_with (fail)
        go_roundw
        case rel => exact ⟨k + 1, n + nq, by go_num, by omega, by rw [HWR.out, World.drewN_drewN]⟩
        case measure => simp [intOf]; omega
    · have hge : (L.length : Int) ≤ (k : Int) := by omega
      have HBW := hide (bseq HB3.out hbw)
      clear hwr hbw
      go_wp2_with (go_at_call 11; refine (works_any _ (HL.out.below HBW.out) (HZ.out.below HBW.out)).mono ?_; rintro e q ⟨rfl, hq⟩)
      go_ret
      exact ⟨rfl, bseq HBW.out hq⟩
end Go.Proofs.YtaljllbfedfpoaaGreatDoor
namespace Go.Proofs.YtaljllbfedfpoaaGreatDoor
open Go.RowKit Go.Shelf
set_option linter.unusedVariables false

/-- What the roads want of a world. -/
def LaidA (W : World) : Prop := LaidW W ∧ LaidZ W ∧ LaidE W
theorem LaidA.below {W W' : World} (h : LaidA W) (hb : Below W.heap.size W W') : LaidA W' := ⟨h.1.below hb, h.2.1.below hb, h.2.2.below hb⟩
theorem kn_tokens (s : ByteArray) (W : World) (h : LaidA W) : Calls Tryz.prog 4 #[.string s] W fun e w' => e = .returned (.bool true) ∧ Below W.heap.size W w' := tokens_road s W h.1 h.2.1 h.2.2
theorem kn_unquotes (s : ByteArray) (W : World) (h : LaidA W) : Calls Tryz.prog 5 #[.string s] W fun e w' => e = .returned (.bool true) ∧ Below W.heap.size W w' := unquotes_road s W h.1 h.2.1 h.2.2
theorem kn_quotes (s : ByteArray) (W : World) (h : LaidA W) (hs : s.size ≤ 1048576) : Calls Tryz.prog 6 #[.string s] W fun e w' => e = .returned (.bool true) ∧ Below W.heap.size W w' := quotes_road s W hs h.1 h.2.1
theorem kn_back (s : ByteArray) (W : World) (h : LaidA W) (hs : s.size ≤ 1048576) : Calls Tryz.prog 7 #[.string s] W fun e w' => e = .returned (.bool true) ∧ Below W.heap.size W w' := back_road s W hs h.1 h.2.1
theorem kn_again (s : ByteArray) (W : World) (h : LaidA W) : Calls Tryz.prog 8 #[.string s] W fun e w' => e = .returned (.bool true) ∧ Below W.heap.size W w' := again_road s W h.1 h.2.1
theorem kn_lines (s : ByteArray) (W : World) (h : LaidA W) (hs : s.size ≤ 1048576) : Calls Tryz.prog 9 #[.string s, .int .u8 1] W fun e w' => e = .returned (.bool true) ∧ Below W.heap.size W w' := lines_road s 1 W hs (by omega) h.1 h.2.1
/-- The lines of the chapter, as bytes. -/
def kn30 : List ByteArray := [⟨#[]⟩, ⟨#[32, 9]⟩, ⟨#[105, 110, 115, 101, 114, 116, 32, 110, 111, 116, 101, 115, 32, 49, 50, 32, 34, 104, 105, 92, 110, 34]⟩, ⟨#[48, 48, 55, 32, 45, 49, 32, 57, 50, 50, 51, 51, 55, 50, 48, 51, 54, 56, 53, 52, 55, 55, 53, 56, 48, 56, 32, 57, 50, 50, 51, 51, 55, 50, 48, 51, 54, 56, 53, 52, 55, 55, 53, 56, 48, 55, 32, 48]⟩, ⟨#[97, 44, 98]⟩, ⟨#[65]⟩, ⟨#[34, 97, 34, 98]⟩, ⟨#[97, 34, 98, 34]⟩, ⟨#[34, 97]⟩, ⟨#[34, 92, 113, 34]⟩, ⟨#[34, 97, 92, 120, 52, 34]⟩, ⟨#[34, 92, 120, 65, 66, 34]⟩, ⟨#[34, 92, 120, 97, 98, 92, 120, 102, 102, 34]⟩, ⟨#[34, 92, 117, 123, 100, 56, 48, 48, 125, 34]⟩, ⟨#[34, 92, 117, 123, 125, 34]⟩, ⟨#[34, 92, 117, 123, 49, 48, 102, 102, 102, 102, 125, 92, 117, 123, 49, 49, 48, 48, 48, 48, 125, 34]⟩, ⟨#[34, 92, 117, 123, 48, 48, 48, 48, 101, 57, 125, 34]⟩, ⟨#[34, 92, 117, 123, 48, 48, 48, 48, 48, 101, 57, 125, 34]⟩, ⟨#[34, 92, 117, 123, 101, 57, 34]⟩, ⟨#[34, 92]⟩, ⟨#[34, 255]⟩, ⟨#[34, 194, 133, 34]⟩, ⟨#[34, 226, 128, 168, 34]⟩, ⟨#[34, 195, 169, 231, 149, 140, 34]⟩, ⟨#[34, 127, 34]⟩, ⟨#[34, 9, 34]⟩, ⟨#[97, 10, 98]⟩, ⟨#[34, 239, 191, 189, 34]⟩, ⟨#[34, 92, 117, 34]⟩, ⟨#[34, 92, 120, 34]⟩]
theorem kn30_len : kn30.length = 30 := rfl
theorem kn30_small : ∀ t ∈ kn30, t.size ≤ 64 := by decide +kernel
end Go.Proofs.YtaljllbfedfpoaaGreatDoor
namespace Go.Proofs.YtaljllbfedfpoaaGreatDoor
open Go.RowKit Go.Shelf
set_option linter.unusedVariables false

theorem kn_cell {W : World} {g k : Nat} {t : ByteArray} (h : W.heap[g]? = some (.cells (kn30.map Value.string).toArray 9 (0, 0))) (hk : kn30[k]? = some t) : W.cell? ⟨g, k, none⟩ = some (.string t) := by
  simp only [World.cell?, h]
  simp [hk]
theorem Tryz.info8k : (Tryz.prog.info? 5).map (fun i => (i.zero, i.size, i.bytes)) = some (some (.int .u8 0), 1, 1) := by kernel_rfl
/-- A row of one token, or of two, printed. -/
theorem kn_print1 (k n : Int) (S : ByteArray) (X : World) (hS : S.size ≤ 1048576) (hn : -9223372036854775808 ≤ n ∧ n ≤ 9223372036854775807) (h : LaidA X) :
    Calls Tryz.prog 10 #[.slice (some ⟨X.heap.size, 0, none⟩) 1 1] (X.alloc (.cells #[.int .i64 k, .int .i64 0, .string S, .int .i64 n] 28)) fun e w' => e = .returned (.bool true) ∧ Below X.heap.size X w' := by
  have hb : Below X.heap.size X (X.alloc (.cells #[.int .i64 k, .int .i64 0, .string S, .int .i64 n] 28)) := (Below.refl _ X).alloc (Nat.le_refl _) _
  have hh := heap_alloc_new X (.cells #[.int .i64 k, .int .i64 0, .string S, .int .i64 n] 28)
  have hl := h.below hb
  refine (prints_road (some ⟨X.heap.size, 0, none⟩) 1 [(k, 0, S, n)] _ (.inr ⟨X.heap.size, 0, rfl, (Array.getElem?_eq_some_iff.1 hh).1, fun i x hx => ?_⟩) (show (1 : Nat) ≤ 1048576 by decide) (fun e => by cases e) (show S.size + 0 ≤ 1048576 by omega) (fun x hx => ?_) hl.1 hl.2.1).mono fun e w' ⟨h1, h2⟩ => ⟨h1, bseq hb h2⟩
  · match i, hx with
    | 0, hx =>
      cases hx
      exact ⟨celS hh 0 _ rfl, celS hh 1 _ rfl, celS hh 2 _ rfl, celS hh 3 _ rfl⟩
    | i + 1, hx => simp at hx
  · cases List.mem_singleton.1 hx
    exact hn
theorem kn_print2 (S : ByteArray) (X : World) (hS : S.size ≤ 1048576) (h : LaidA X) :
    Calls Tryz.prog 10 #[.slice (some ⟨X.heap.size, 0, none⟩) 2 2] (X.alloc (.cells #[.int .i64 1, .int .i64 0, .string S, .int .i64 0, .int .i64 2, .int .i64 0, .string ⟨#[]⟩, .int .i64 0] 28)) fun e w' => e = .returned (.bool true) ∧ Below X.heap.size X w' := by
  have hb : Below X.heap.size X (X.alloc (.cells #[.int .i64 1, .int .i64 0, .string S, .int .i64 0, .int .i64 2, .int .i64 0, .string ⟨#[]⟩, .int .i64 0] 28)) := (Below.refl _ X).alloc (Nat.le_refl _) _
  have hh := heap_alloc_new X (.cells #[.int .i64 1, .int .i64 0, .string S, .int .i64 0, .int .i64 2, .int .i64 0, .string ⟨#[]⟩, .int .i64 0] 28)
  have hl := h.below hb
  refine (prints_road (some ⟨X.heap.size, 0, none⟩) 2 [(1, 0, S, 0), (2, 0, ⟨#[]⟩, 0)] _ (.inr ⟨X.heap.size, 0, rfl, (Array.getElem?_eq_some_iff.1 hh).1, fun i x hx => ?_⟩) (show (2 : Nat) ≤ 1048576 by decide) (fun e => by cases e) (show S.size + (0 + 0) ≤ 1048576 by omega) (fun x hx => ?_) hl.1 hl.2.1).mono fun e w' ⟨h1, h2⟩ => ⟨h1, bseq hb h2⟩
  · match i, hx with
    | 0, hx =>
      cases hx
      exact ⟨celS hh 0 _ rfl, celS hh 1 _ rfl, celS hh 2 _ rfl, celS hh 3 _ rfl⟩
    | 1, hx =>
      cases hx
      exact ⟨celS hh 4 _ rfl, celS hh 5 _ rfl, celS hh 6 _ rfl, celS hh 7 _ rfl⟩
    | i + 2, hx => simp at hx
  · simp only [List.mem_cons, List.not_mem_nil, or_false] at hx
    rcases hx with rfl | rfl <;> exact ⟨show (-9223372036854775808 : Int) ≤ 0 by decide, show (0 : Int) ≤ 9223372036854775807 by decide⟩
theorem kn_make (w : World) : (Instr.makeSlice 25 (.int .i64 16384) (.int .i64 16384)).run Tryz.prog w = .ok (.slice (some ⟨w.heap.size, 0, none⟩) 16384 16384) (w.alloc (.cells (madeCells #[.int .u8 0] 16384) 5)) :=
  run_make_row' (P := Tryz.prog) 25 5 (.int .u8 0) 1 Tryz.underlying25 Tryz.info8k rfl .i64 .i64 16384 (by omega) (by omega) w
theorem kn_made : (madeCells #[Value.int .u8 0] 16384).size = 16384 := by
  simp [madeCells]
theorem kn_string {W : World} {g M : Nat} {cur : Array Value} (h : W.heap[g]? = some (.cells cur 5 (0, 0))) (hs : cur.size = M) (hall : ∀ i, i < M → cur[i]? = some (.int .u8 97)) (hM : M ≤ maxLen) :
    ∃ S : ByteArray, (convert 25 9 (.slice (some ⟨g, 0, none⟩) M M)).run Tryz.prog W = .ok (.string S) W ∧ S.size = M := by
  have hl : (List.replicate M (97 : UInt8)).length = M := List.length_replicate
  have hb : (Lib.byteCells (List.replicate M (97 : UInt8))) = cur.toList := by
    refine List.ext_getElem? fun i => ?_
    unfold Lib.byteCells
    rw [List.getElem?_map, show cur.toList[i]? = cur[i]? by simp]
    by_cases hi : i < M
    · rw [hall i hi, List.getElem?_replicate, if_pos hi]
      rfl
    · rw [show (List.replicate M (97 : UInt8))[i]? = none from List.getElem?_eq_none (by rw [hl]; omega), show cur[i]? = none from Array.getElem?_eq_none (by omega)]
      rfl
  have hr : Row8 W 0 (.slice (some ⟨g, 0, none⟩) M M) (List.replicate M (97 : UInt8)) := by
    unfold Row8
    rw [hl, hb]
    exact ⟨by rw [Array.length_toList, hs, Nat.mul_one], .inr ⟨g, M, cur, rfl, Nat.zero_le _, h, Nat.le_refl _, hM, by rw [hs, Nat.mul_one], by rw [Nat.mul_one, ← hs, ← Array.length_toList]; exact List.take_length⟩⟩
  refine ⟨_, run_string_own8 W 0 _ _ hr, ?_⟩
  show (⟨(List.replicate M (97 : UInt8)).toArray⟩ : ByteArray).size = M
  simp [ByteArray.size]
set_option maxRecDepth 100000 in
set_option maxHeartbeats 2000000 in
theorem known_road (w : World) (h : LaidA w) : Calls Tryz.prog 3 #[] w fun e w' => e = .returned (.bool true) ∧ Below w.heap.size w w' := by
  have HA := hide h
  clear h
  go_enter Tryz.func3, Tryz.ntmps3
  go_upto_region 1 with (fail)
  go_cut [1] (fun v wx => ∃ N g : Nat, N = 30 ∧ v = .slice (some ⟨g, 0, none⟩) N N ∧ wx.heap[g]? = some (.cells (kn30.map Value.string).toArray 9 (0, 0)) ∧ Below w.heap.size w wx)
  case first =>
    go_wp2_with (fail)
    go_meet
    exact ⟨30, w.heap.size, rfl, rfl, heap_alloc_new w _, (Below.refl _ w).alloc (Nat.le_refl _) _⟩
  case rest =>
    obtain ⟨N, g, hN, rfl, hg, hb⟩ := hcut
    have HG := hide hg
    have HB := hide hb
    have HAC := hide (HA.out.below hb)
    have hNI : (N : Int) ≤ 30 := by omega
    have HN := hide hN
    clear hg hb hN
    go_wp2_with (fail)
    go_loopw [2] (fun i wr => ∃ k : Nat, i = .int .i64 (k : Int) ∧ k ≤ N ∧ Below wc.heap.size wc wr) (fun i _ => N - (intOf i).toNat)
    case atStart => exact ⟨0, rfl, Nat.zero_le _, Below.refl _ _⟩
    case round =>
      obtain ⟨k, rfl, hk, hbr⟩ := hrel
      have HBR := hide hbr
      clear hbr
      by_cases hlt : k < N
      · have hltI : (k : Int) < (N : Int) := by omega
        obtain ⟨t, ht⟩ : ∃ t, kn30[k]? = some t := ⟨_, List.getElem?_eq_getElem (by rw [kn30_len, ← HN.out]; exact hlt)⟩
        have hsm := kn30_small t (List.mem_of_getElem? ht)
        have hgr : wr.heap[g]? = some (.cells (kn30.map Value.string).toArray 9 (0, 0)) := (HBR.out.block g (Array.getElem?_eq_some_iff.1 HG.out).1).trans HG.out
        have hc := kn_cell hgr ht
        have mk : ∀ W, Below wr.heap.size wr W → (Below wr.heap.size wr W ∧ W.cell? ⟨g, k, none⟩ = some (.string t)) := fun W hB => ⟨hB, (hB.cell (p := ⟨g, k, none⟩) (Array.getElem?_eq_some_iff.1 hgr).1).trans hc⟩
        have MK := hide mk
        have HAR := hide (HAC.out.below HBR.out)
        have hcat : (t ++ ⟨#[10, 35, 32, 120, 10, 32, 32, 98, 13, 10, 10]⟩ ++ t).size ≤ 1048576 := by rw [ByteArray.size_append, ByteArray.size_append]; show t.size + 11 + t.size ≤ _; omega
        have htI : (t.size : Int) ≤ 64 := by omega
        have HT := hide (show t.size ≤ 1048576 by omega)
        have HCAT := hide hcat
        have hd : (wr.drew).cell? ⟨g, k, none⟩ = some (.string t) := hc
        have ad1 := fun w => run_string_add_sum (P := Tryz.prog) w t ⟨#[10, 35, 32, 120, 10, 32, 32, 98, 13, 10, 10]⟩ (show t.size + 11 ≤ _ by omega)
        have ad2 := fun w => run_string_add_sum (P := Tryz.prog) w (t ++ ⟨#[10, 35, 32, 120, 10, 32, 32, 98, 13, 10, 10]⟩) t (by rw [ByteArray.size_append]; show t.size + 11 + t.size ≤ _; omega)
        clear mk ht hgr hsm hcat
        go_wp2_with (fail)
        go_region_held3 (fun w' => Below wr.heap.size wr w' ∧ w'.cell? ⟨g, k, none⟩ = some (.string t)) (first | exact MK.out _ ((Below.refl _ wr).drew) | exact MK.out _ hW1 | exact MK.out _ hW2 | exact MK.out _ hW3 | exact MK.out _ hW4 | exact MK.out _ hW5 | exact MK.out _ hW6) (first | (go_at_call 4; refine (kn_tokens t _ (HAR.out.below ((Below.refl _ wr).drew))).mono ?_; rintro e w1 ⟨rfl, hB1⟩; have hW1 : Below wr.heap.size wr w1 := bseq ((Below.refl _ wr).drew) hB1) | (go_at_call 5; refine (kn_unquotes t _ (HAR.out.below hW1)).mono ?_; rintro e w2 ⟨rfl, hB2⟩; have hW2 : Below wr.heap.size wr w2 := bseq hW1 hB2) | (go_at_call 6; refine (kn_quotes t _ (HAR.out.below hW2) HT.out).mono ?_; rintro e w3 ⟨rfl, hB3⟩; have hW3 : Below wr.heap.size wr w3 := bseq hW2 hB3) | (go_at_call 7; refine (kn_back t _ (HAR.out.below hW3) HT.out).mono ?_; rintro e w4 ⟨rfl, hB4⟩; have hW4 : Below wr.heap.size wr w4 := bseq hW3 hB4) | (go_at_call 8; refine (kn_again t _ (HAR.out.below hW4)).mono ?_; rintro e w5 ⟨rfl, hB5⟩; have hW5 : Below wr.heap.size wr w5 := bseq hW4 hB5) | (go_at_call 9; refine (kn_lines _ _ (HAR.out.below hW5) HCAT.out).mono ?_; rintro e w6 ⟨rfl, hB6⟩; have hW6 : Below wr.heap.size wr w6 := bseq hW5 hB6))
        go_wp2_with (fail)
        go_roundw
        case rel => exact ⟨k + 1, by go_num, by omega, bseq HBR.out hW6⟩
        case measure => simp [intOf]; omega
      · have hge : (N : Int) ≤ (k : Int) := by omega
        have HAR := hide (HAC.out.below HBR.out)
        have HBW := hide (bseq HB.out HBR.out)
        obtain ⟨X, hXw⟩ : ∃ X, X = wr := ⟨_, rfl⟩
        subst hXw
        clear HBR
        go_upto_region 7 with (fail)
        go_cut [3] (fun v wx => ∃ (M : Nat) (cur : Array Value), M = 16384 ∧ v = .slice (some ⟨X.heap.size, 0, none⟩) M M ∧ wx.heap[X.heap.size]? = some (.cells cur 5 (0, 0)) ∧ cur.size = M ∧ Below X.heap.size X wx)
        case first =>
          have hmk := kn_make
          go_wp2_with (fail)
          go_meet
          exact ⟨16384, _, rfl, rfl, heap_alloc_new X _, kn_made, (Below.refl _ X).alloc (Nat.le_refl _) _⟩
        case rest =>
          obtain ⟨M, cur0, hM, rfl, hcur0, hcs0, hbx⟩ := hcut
          have HC0 := hide hcur0
          have HBX := hide hbx
          have HM := hide hM
          have hMI : (M : Int) ≤ 16384 := by omega
          clear hcur0 hbx hM
          go_wp2_with (fail)
          go_loopw [4] (fun i wq => ∃ (j : Nat) (cur : Array Value), i = .int .i64 (j : Int) ∧ j ≤ M ∧ wq.heap[X.heap.size]? = some (.cells cur 5 (0, 0)) ∧ cur.size = M ∧ (∀ i, i < j → cur[i]? = some (.int .u8 97)) ∧ Below X.heap.size X wq) (fun i _ => M - (intOf i).toNat)
          case atStart => exact ⟨0, cur0, rfl, Nat.zero_le _, HC0.out, hcs0, fun i h => absurd h (Nat.not_lt_zero _), HBX.out⟩
          case round =>
            clear HC0 HBX hcs0
            obtain ⟨j, cur, rfl, hj, hcur, hcs, hall, hbx⟩ := hrel
            have HC := hide hcur
            have HALL := hide hall
            have HBX := hide hbx
            clear hall hbx
            by_cases hjl : j < M
            · have hjlI : (j : Int) < (M : Int) := by omega
              have hco : wr.cell? ⟨X.heap.size, j, none⟩ = some cur[j] := celS hcur j _ (Array.getElem?_eq_getElem (by omega))
              have hfo : wr.frozen? ⟨X.heap.size, j, none⟩ = false := frzS hcur j
              have hnw := heap_setCell_same wr X.heap.size j _ _ (.int .u8 97) hcur
              have HNW := hide hnw
              clear hcur hnw
              go_wp2_with (fail)
              go_roundw
              case rel =>
                refine ⟨j + 1, _, by go_num, by omega, HNW.out, by simp [hcs], fun i hi => ?_, HBX.out.setCell (p := ⟨X.heap.size, j, none⟩) (Nat.le_refl _) _⟩
                by_cases hij : i = j
                · subst hij
                  rw [Array.getElem?_setIfInBounds_self_of_lt (by omega)]
                · rw [Array.getElem?_setIfInBounds_ne (Ne.symm hij)]
                  exact HALL.out i (by omega)
              case measure => simp [intOf]; omega
            · have hgeM : (M : Int) ≤ (j : Int) := by omega
              obtain ⟨S, hcv, hS⟩ := kn_string hcur hcs (fun i hi => HALL.out i (by omega)) (by rw [HM.out]; decide)
              have HS := hide (hS.trans HM.out)
              have HAX := hide (HAR.out.below HBX.out)
              have HBZ := hide (bseq HBW.out HBX.out)
              clear hcur hcs HALL HBX HC hS
              have hS1 : (16383 : Int) ≤ (S.size : Int) := by have := HS.out; omega
              have hS2 : (S.size : Int) ≤ 16384 := by have := HS.out; omega
              have hE1 : (S.extract 0 16382).size = 16382 := by have := HS.out; rw [ByteArray.size_extract]; omega
              have hE2 : (S.extract 0 16383).size = 16383 := by have := HS.out; rw [ByteArray.size_extract]; omega
              have HSZ := hide (show S.size ≤ 1048576 by have := HS.out; omega)
              have HX0 := HAX
              have HY0 := HBZ
              clear HAX HBZ
              go_upto_region 13 with (fail)
              clear hcv
              go_wp2_with (first | (go_at_call 4; refine (kn_tokens _ _ HX0.out).mono ?_; rintro e z1 ⟨rfl, hb1⟩; have HX1 := hide (HX0.out.below hb1); have HY1 := hide (bseq HY0.out hb1); clear hb1 HX0 HY0) | (go_at_call 4; refine (kn_tokens _ _ HX1.out).mono ?_; rintro e z2 ⟨rfl, hb2⟩; have HX2 := hide (HX1.out.below hb2); have HY2 := hide (bseq HY1.out hb2); clear hb2 HX1 HY1) | (go_at_call 5; refine (kn_unquotes _ _ HX2.out).mono ?_; rintro e z3 ⟨rfl, hb3⟩; have HX3 := hide (HX2.out.below hb3); have HY3 := hide (bseq HY2.out hb3); clear hb3 HX2 HY2) | (go_at_call 5; refine (kn_unquotes _ _ HX3.out).mono ?_; rintro e z4 ⟨rfl, hb4⟩; have HX4 := hide (HX3.out.below hb4); have HY4 := hide (bseq HY3.out hb4); clear hb4 HX3 HY3) | (go_at_call 10; refine (kn_print1 1 0 S _ HSZ.out (by decide) HX4.out).mono ?_; rintro e z5 ⟨rfl, hb5⟩; have HX5 := hide (HX4.out.below hb5); have HY5 := hide (bseq HY4.out hb5); clear hb5 HX4 HY4) | (go_at_call 10; refine (kn_print2 S _ HSZ.out HX5.out).mono ?_; rintro e z6 ⟨rfl, hb6⟩; have HX6 := hide (HX5.out.below hb6); have HY6 := hide (bseq HY5.out hb6); clear hb6 HX5 HY5) | (go_at_call 10; refine (kn_print1 1 0 ⟨#[49, 50]⟩ _ (by decide) (by decide) HX6.out).mono ?_; rintro e z7 ⟨rfl, hb7⟩; have HX7 := hide (HX6.out.below hb7); have HY7 := hide (bseq HY6.out hb7); clear hb7 HX6 HY6) | (go_at_call 11; refine (works_any _ HX7.out.1 HX7.out.2.1).mono ?_; rintro e z8 ⟨rfl, hb8⟩; have HY8 := hide (bseq HY7.out hb8); clear hb8))
              go_ret
              exact ⟨rfl, HY8.out⟩
end Go.Proofs.YtaljllbfedfpoaaGreatDoor
namespace Go.Proofs.YtaljllbfedfpoaaGreatDoor
open Go.ChangeShapes Go.WideShapes Go.ChangeAt Go.RowKit
set_option linter.unusedVariables false

theorem own : ownKnob Tryz.prog.godebug = none := by kernel_rfl
theorem laidOut : laidOutB Tryz.prog = true := by kernel_rfl
theorem size_of_sized {s : ByteArray} (h : s.data.toList.length ≤ reachBytes) : s.size ≤ 140737488351232 := by
  have : s.data.toList.length = s.size := by simp
  have e : reachBytes = 140737488351232 := by decide
  omega
theorem bulk_pos {H : Type} (d : DataW H) : 1 ≤ Rows.uptoBulk d := by
  cases d with
  | lit l => cases l <;> simp [Rows.uptoBulk]
  | _ => simp [Rows.uptoBulk]
theorem bulk_len {H : Type} (l : List (DataW H)) : l.length ≤ Rows.uptoBulkAll l := by
  induction l with
  | nil => simp [Rows.uptoBulkAll]
  | cons d r ih =>
    have := bulk_pos d
    simp only [Rows.uptoBulkAll, List.length_cons]
    omega
theorem bulk_string {H : Type} (s : ByteArray) : s.size ≤ Rows.uptoBulk (H := H) (.lit (.string s.data.toList)) := by
  simp [Rows.uptoBulk]
theorem bulk_nums {H : Type} {d : DataW H} {zs : List Int} (h : d = .nil ∧ zs = [] ∨ ∃ el sp, d = .slice el sp ∧ el.length = zs.length) : zs.length ≤ Rows.uptoBulk d := by
  rcases h with ⟨_, rfl⟩ | ⟨el, sp, rfl, h⟩
  · simp
  · have := bulk_len el
    simp only [Rows.uptoBulk]
    omega
theorem bulk_of {H : Type} {l : List (DataW H)} (h : Rows.uptoSmall H l = true) : Rows.uptoBulkAll l ≤ 1048576 := of_decide_eq_true h

end Go.Proofs.YtaljllbfedfpoaaGreatDoor
namespace Go.Proofs.YtaljllbfedfpoaaGreatDoor
open Go.ChangeShapes Go.WideShapes Go.ChangeAt Go.RowKit
set_option linter.unusedVariables false

/-- The five variables, as the rows list them. -/
def laidL : List (String × DataW Unit) := [("math/bits.deBruijn32tab", Rows.laid_math_bits_deBruijn32tab), ("math/bits.deBruijn64tab", Rows.laid_math_bits_deBruijn64tab), ("internal/strconv.uint64pow10", Rows.laid_internal_strconv_uint64pow10), ("strconv.ErrRange", Rows.laid_strconv_ErrRange), ("strconv.ErrSyntax", Rows.laid_strconv_ErrSyntax)]
theorem gTab64 : Tryz.prog.globalNamed "math/bits.deBruijn64tab" = some 6 := by kernel_rfl
theorem gPow : Tryz.prog.globalNamed "internal/strconv.uint64pow10" = some 2 := by kernel_rfl
theorem gRange : Tryz.prog.globalNamed "strconv.ErrRange" = some 4 := by kernel_rfl
theorem gSyntax : Tryz.prog.globalNamed "strconv.ErrSyntax" = some 3 := by kernel_rfl
theorem tTab64 : (Tryz.prog.globals[6]?).map (·.type) = some 174 := by kernel_rfl
theorem tPow : (Tryz.prog.globals[2]?).map (·.type) = some 154 := by kernel_rfl
theorem tRange : (Tryz.prog.globals[4]?).map (·.type) = some 32 := by kernel_rfl
theorem tSyntax : (Tryz.prog.globals[3]?).map (·.type) = some 32 := by kernel_rfl
theorem laid_of {W : World} (h : laidMetH Tryz.prog laidL W) : LaidW W ∧ LaidZ W := by
  rw [MakeChecks.laidMetH_plain _ _ _ (by kernel_rfl)] at h
  obtain ⟨ps, ⟨g0, t0, cs0, f0, p0, q0, hg0, ht0, hv0, hd0, ⟨g1, t1, cs1, f1, p1, q1, hg1, ht1, hv1, hd1, ⟨g2, t2, cs2, f2, p2, q2, hg2, ht2, hv2, hd2, ⟨g3, t3, cs3, f3, p3, q3, hg3, ht3, hv3, hd3, ⟨g4, t4, cs4, f4, p4, q4, hg4, ht4, hv4, hd4, _, _⟩, _⟩, _⟩, _⟩, _⟩, _, _⟩ := h
  obtain rfl := Option.some.inj (gTab64.symm.trans hg1)
  obtain rfl := Option.some.inj (tTab64.symm.trans ht1)
  obtain rfl := Option.some.inj (gPow.symm.trans hg2)
  obtain rfl := Option.some.inj (tPow.symm.trans ht2)
  obtain rfl := Option.some.inj (gRange.symm.trans hg3)
  obtain rfl := Option.some.inj (tRange.symm.trans ht3)
  obtain rfl := Option.some.inj (gSyntax.symm.trans hg4)
  obtain rfl := Option.some.inj (tSyntax.symm.trans ht4)
  have k1 := Lib.cells_of_tab (k := .u8) (zs := [0, 1, 56, 2, 57, 49, 28, 3, 61, 58, 42, 50, 38, 29, 17, 4, 62, 47, 59, 36, 45, 43, 51, 22, 53, 39, 33, 30, 24, 18, 12, 5, 63, 55, 48, 27, 60, 41, 37, 16, 46, 35, 44, 21, 52, 32, 23, 11, 54, 26, 40, 15, 34, 20, 31, 10, 25, 14, 19, 9, 13, 8, 7, 6]) Tryz.underlying174 Tryz.underlying5 (by kernel_rfl) (by kernel_rfl) hd1
  have k2 := Lib.cells_of_tab (k := .u64) (zs := Lib.pow10Tab) Tryz.underlying154 Tryz.underlying140 (by kernel_rfl) (by kernel_rfl) hd2
  obtain ⟨_, u3, v3, e3, _, _⟩ := iface_of_trod Tryz.underlying32 hd3
  obtain ⟨_, u4, v4, e4, _, _⟩ := iface_of_trod Tryz.underlying32 hd4
  have c3 := World.var?_cell gRange hv3 0
  have c4 := World.var?_cell gSyntax hv4 0
  have c1 := World.var?_cell gTab64 hv1 15
  refine ⟨⟨⟨u4, v4, ?_⟩, ⟨u3, v3, ?_⟩, ?_⟩, ?_⟩
  · rw [c4, ← Array.getElem?_toList, e4]; rfl
  · rw [c3, ← Array.getElem?_toList, e3]; rfl
  · show W.var? _ _ = _
    rw [hv2, ← k2]
  · show W.cell? _ = _
    rw [c1, ← Array.getElem?_toList, k1]
    rfl
theorem door_met (os : Os) (args : Array Value) : laidMetH Tryz.prog laidL ((World.doorLaid Tryz.prog 100 os).forCall (fun _ _ => 0) ⟨#[], args, []⟩).memory :=
  laidMetH_of_parts3 (fuel := 8) (laidMet_of_run' 8 (by kernel_rfl) (by kernel_rfl)) (by kernel_rfl) (by kernel_rfl)
end Go.Proofs.YtaljllbfedfpoaaGreatDoor
namespace Go.Proofs.YtaljllbfedfpoaaGreatDoor
open Go.ChangeShapes Go.WideShapes Go.ChangeAt Go.RowKit
set_option linter.unusedVariables false

theorem gErrT : Tryz.prog.globalNamed "errors.errorType" = some 0 := by kernel_rfl
theorem errOnly : ((List.range Tryz.prog.types.size).filter fun t => Tryz.prog.rowNamed t [101, 114, 114, 111, 114]) = [32] := by kernel_rfl
theorem cutRt : (Tryz.prog.cutTypes.find? (·.1 == "internal/reflectlite.rtype")).map (·.2) = some 124 := by kernel_rfl
theorem handErr (ty : TypeId) (h : ty = 32) : typeHandle Tryz.prog ty = .pointer (some ⟨7, 32, none⟩) := by subst h; kernel_rfl
theorem laid_of6 {W : World} {L : List (String × DataW Unit)} (hL : (L.filter fun x => x.2.handleName?.isNone) = laidL) (hH : (L.filter fun x => x.2.handleName?.isSome) = [("errors.errorType", Rows.laid_errors_errorType)]) (h : laidMetH Tryz.prog L W) : LaidW W ∧ LaidZ W ∧ LaidE W := by
  unfold laidMetH at h
  rw [hH] at h
  obtain ⟨h1, h2⟩ := h
  rw [hL] at h1
  obtain ⟨a, b⟩ := laid_of (W := W) (by rw [MakeChecks.laidMetH_plain _ _ _ (by kernel_rfl)]; exact h1)
  have h3 := h2 _ (List.mem_singleton.2 rfl)
  simp only [show (Rows.laid_errors_errorType : DataW Unit).funcsIn? = none from rfl] at h3
  obtain ⟨name, u, ty, e1, e2, e3, e4, e5⟩ := h3
  have en : name = [101, 114, 114, 111, 114] := (Option.some.inj ((show (Rows.laid_errors_errorType : DataW Unit).handleName? = some [101, 114, 114, 111, 114] from rfl).symm.trans e1)).symm
  subst en
  obtain rfl := Option.some.inj (cutRt.symm.trans e2)
  have hm : ty ∈ (List.range Tryz.prog.types.size).filter fun t => Tryz.prog.rowNamed t [101, 114, 114, 111, 114] := List.mem_filter.2 ⟨List.mem_range.2 e3, e4⟩
  rw [errOnly] at hm
  have ht := List.mem_singleton.1 hm
  refine ⟨a, b, ?_⟩
  have c := World.var?_cell gErrT e5 0
  rw [handErr ty ht] at c
  unfold LaidE
  rw [c]
  rfl
theorem door_met6 (os : Os) (args : Array Value) {L : List (String × DataW Unit)} (hL : (L.filter fun x => x.2.handleName?.isNone) = laidL)
    (hH : (L.filter fun x => x.2.handleName?.isSome && x.2.funcsIn?.isNone) = [("errors.errorType", Rows.laid_errors_errorType)]) (hF : funcsListed L = []) : laidMetH Tryz.prog L ((World.doorLaid Tryz.prog 100 os).forCall (fun _ _ => 0) ⟨#[], args, []⟩).memory :=
  laidMetH_of_parts3 (fuel := 8) (by rw [hL]; exact laidMet_of_run' 8 (by kernel_rfl) (by kernel_rfl)) (by rw [hH]; kernel_rfl) (by rw [hF]; rfl)
end Go.Proofs.YtaljllbfedfpoaaGreatDoor
namespace Go.Proofs.YtaljllbfedfpoaaGreatDoor.scanKnown
open Go.ChangeShapes Go.WideShapes Go.ChangeAt Go.RowKit Go.Proofs.YtaljllbfedfpoaaGreatDoor
set_option linter.unusedVariables false

set_option maxRecDepth 100000 in
theorem contract (H : Type) (enc : TypeId × Value → H) (W : World) (base : Nat) (args : Array Value) (ds gs : List (DataW H)) (before : List MemPlace)
    (hval : ∀ (j : Nat) t v, Tryz.f3.params[j]? = some t → args[j]? = some v → Value.okWide Tryz.prog W .any base t v)
    (hW : DataW.Whole enc Tryz.prog Tryz.f3.params.toList Rows.scanKnownSpec.vars false W args.toList ds gs before) (hlaid : laidMetH Tryz.prog Rows.scanKnownRow.laid W) :
    Calls Tryz.prog 3 args W fun e W' => ∃ v, e = .returned v ∧ Rows.scanKnownSpec.post enc Tryz.prog Tryz.f3 false true false false W args v W' := by
  have hW' := hW
  obtain ⟨hL, hZ, hE⟩ := laid_of6 rfl rfl hlaid
  obtain ⟨p, q, hA0, hV, rfl, hfz, hnd⟩ := hW
  have hA : DataW.TrodAll enc Tryz.prog W 0 (fun _ => true) true Tryz.f3.params.toList args.toList ds p := hA0
  rw [Tryz.params3] at hA hval
  obtain ⟨hargs, rfl, rfl⟩ := trodAll_nil hA
  obtain rfl : args = #[] := by cases args; simp_all
  obtain ⟨rfl, rfl⟩ := trodVars_none hV
  clear hA0
  refine (known_road W ⟨hL, hZ, hE⟩).mono fun e W' ⟨he, bel⟩ => ?_
  subst he
  exact ⟨_, rfl, _, _, _, [], _, [], hW', trodAll_mk1 (shut_bool Tryz.underlying4 _), trodAll_mk0, rfl, bel.frame _, fun h => by cases h⟩

theorem reads (os : Os) {H : Type} (enc : TypeId × Value → H) : ∃ places, DataW.whole enc Tryz.prog ((World.doorLaid Tryz.prog 100 os).forCall (fun _ _ => 0) ⟨#[], #[], []⟩).memory Tryz.f3.params.toList Rows.scanKnownSpec.vars false (#[] : Array Value).toList 8 = some ([], [], places) :=
  ⟨[], by kernel_rfl⟩

set_option maxRecDepth 100000 in
theorem liftedUpto (os : Os) (started : os.Started) (H : Type) (enc : TypeId × Value → H) (F : Stop.Interp) :
    ReturnsInHanded {} Tryz.checked os 3 .any ((OpenSpec.ofChange Rows.scanKnownSpec).preRow enc Tryz.prog Tryz.f3 Rows.scanKnownRow.domain false Rows.scanKnownRow.laid) (((OpenSpec.ofChange Rows.scanKnownSpec).at F).post enc Tryz.prog Tryz.f3 false true false false) := by
  obtain ⟨places, hx⟩ := reads os enc
  refine returnsInHanded_of_row (C := Tryz.checked) (s := OpenSpec.ofChange Rows.scanKnownSpec) own started (by kernel_rfl) Tryz.func3
    (witness_row_atRef (enc := enc) (C := Tryz.checked) false (World.doorLaid Tryz.prog 100 os) #[] rfl (by kernel_rfl) (by kernel_rfl) (by kernel_rfl)
      (OpenSpec.preRow_of_cond 8 hx (by kernel_rfl) (fun k hk => by cases hk) (by kernel_rfl) (door_met6 os _ rfl rfl rfl))) ?_
  intro W base args ds gs before hval hW _ hcond hsz hL _ _
  exact contract H enc W base args ds gs before hval hW hL

theorem saidUpto : Rows.ScanKnownSaid :=
  OpenClaim.holds_of_cond 3 Tryz.f3 rfl rfl rfl rfl rfl rfl rfl ⟨rfl, rfl, rfl, rfl, rfl⟩ rfl rfl rfl rfl rfl (by kernel_rfl) Tryz.func3 (by kernel_rfl)
    (of_decide_eq_true (by kernel_rfl)) (by unfold Func.isWrapper; first | (rw [if_pos (by decide +kernel)]; kernel_rfl) | (rw [if_neg (by decide +kernel)]; exact ⟨rfl, rfl⟩))
    (fun os started H enc _ F => by rw [OpenClaim.pre_eq_preRow]; exact liftedUpto os started H enc F)

theorem plain (f : FuncId) (fn : Func) (hf : Tryz.pinned.checked.prog.funcNamed "vellum/vellumlaw07.ScanKnown" = some f) (hfn : Tryz.pinned.checked.prog.funcs[f]? = some fn) :
    true = Tryz.pinned.checked.prog.looks [] ∧ ∀ (j : Nat) t, fn.params[j]? = some t → Tryz.pinned.checked.prog.wantsStandIn t = false := by
  obtain rfl : f = 3 := Option.some.inj ((show Tryz.prog.funcNamed "vellum/vellumlaw07.ScanKnown" = some 3 by kernel_rfl).symm.trans hf) |>.symm
  obtain rfl : fn = Tryz.f3 := (Option.some.inj (Tryz.func3.symm.trans hfn)).symm
  refine ⟨by kernel_rfl, fun j t ht => ?_⟩
  rw [Tryz.params3] at ht
  simp at ht

theorem cardUpto : Rows.ScanKnownCardSaid :=
  Claim7.holds_tied_plain_at .later [] _ _ _ _ saidUpto (fun _ h => by cases h) (by kernel_rfl) (fun _ h => by cases h) scanKnown_row_tie rfl ⟨rfl, rfl⟩ (by kernel_rfl) rfl plain (by kernel_rfl)
end Go.Proofs.YtaljllbfedfpoaaGreatDoor.scanKnown

namespace Go.Proofs.YtaljllbfedfpoaaGreatDoor
/-- ScanKnown, as its card states it. -/
theorem scanKnown_card : Rows.ScanKnownCardSaid := scanKnown.cardUpto
#print axioms scanKnown_card
end Go.Proofs.YtaljllbfedfpoaaGreatDoor
