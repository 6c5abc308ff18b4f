/- The reader of package seek: what done, sees and takes answer, and where the reader stands then. -/
import Derived.Test.YtodooppapciegaaGreatDoorUFirst
import Derived.Deep.QuietTactic
import Derived.BigQuiet
import Derived.WalkKit
import Derived.WalkSmall
namespace Go.Proofs.YtodooppapciegaaGreatDoor
open Go.RowKit
set_option linter.unusedVariables false

/-- A reader stands at a place of a text, with these items. -/
def Rx (w : World) (b : Nat) (s : ByteArray) (p : Nat) (f : Bool) (v : Value) : Prop := w.heap[b]? = some (.cells #[.string s, .int .i64 (p : Int), .bool f, v] 48 (0, 0))
theorem Rx.text {w : World} {b : Nat} {s : ByteArray} {p : Nat} {f : Bool} {v : Value} (h : Rx w b s p f v) : w.cell? ⟨b, 0, none⟩ = some (.string s) := by
  unfold Rx at h; simp only [World.cell?, h]; rfl
theorem Rx.at {w : World} {b : Nat} {s : ByteArray} {p : Nat} {f : Bool} {v : Value} (h : Rx w b s p f v) : w.cell? ⟨b, 1, none⟩ = some (.int .i64 (p : Int)) := by
  unfold Rx at h; simp only [World.cell?, h]; rfl
theorem Rx.fold {w : World} {b : Nat} {s : ByteArray} {p : Nat} {f : Bool} {v : Value} (h : Rx w b s p f v) : w.cell? ⟨b, 2, none⟩ = some (.bool f) := by
  unfold Rx at h; simp only [World.cell?, h]; rfl
theorem Rx.items {w : World} {b : Nat} {s : ByteArray} {p : Nat} {f : Bool} {v : Value} (h : Rx w b s p f v) : w.cell? ⟨b, 3, none⟩ = some v := by
  unfold Rx at h; simp only [World.cell?, h]; rfl
theorem Rx.frz {w : World} {b : Nat} {s : ByteArray} {p : Nat} {f : Bool} {v : Value} (h : Rx w b s p f v) (o : Nat) : w.frozen? ⟨b, o, none⟩ = false := by
  unfold Rx at h; simp [World.frozen?, h]
theorem Rx.drewN {w : World} {b : Nat} {s : ByteArray} {p : Nat} {f : Bool} {v : Value} (h : Rx w b s p f v) (n : Nat) : Rx (w.drewN n) b s p f v := h
theorem Rx.set {w : World} {b : Nat} {s : ByteArray} {p : Nat} {f : Bool} {v : Value} (h : Rx w b s p f v) (q : Nat) : Rx (w.setCell ⟨b, 1, none⟩ (.int .i64 (q : Int))) b s q f v := by
  have := heap_setCell_same w b 1 _ _ (.int .i64 (q : Int)) h
  exact this
theorem Rx.lt {w : World} {b : Nat} {s : ByteArray} {p : Nat} {f : Bool} {v : Value} (h : Rx w b s p f v) : b < w.heap.size := (Array.getElem?_eq_some_iff.1 h).1
theorem Rx.below {w w' : World} {b : Nat} {s : ByteArray} {p : Nat} {f : Bool} {v : Value} (h : Rx w b s p f v) (hb : Below w.heap.size w w') : Rx w' b s p f v := (hb.block b h.lt).trans h
theorem grownX_drewN (w : World) (n : Nat) (r : Option Nat) : w.grownBy (w.drewN n) r := ⟨rfl, rfl, rfl, Nat.le_refl _, fun _ _ _ => rfl⟩
theorem grownX_set (w : World) (b o : Nat) (v : Value) : w.grownBy (w.setCell ⟨b, o, none⟩ v) (some b) := by
  refine ⟨rfl, rfl, rfl, by simp [World.setCell], fun j hj hr => ?_⟩
  have hne : b ≠ j := fun e => hr (by rw [e])
  simp [World.setCell, Array.getElem?_modify, hne]
theorem grownX_trans {a b c : World} {r : Option Nat} (h : a.grownBy b r) (k : b.grownBy c r) : a.grownBy c r :=
  ⟨k.os.trans h.os, k.tape.trans h.tape, k.output.trans h.output, Nat.le_trans h.size k.size, fun j hj hr => (k.block j (Nat.lt_of_lt_of_le hj h.size) hr).trans (h.block j hj hr)⟩
set_option maxHeartbeats 400000 in
theorem xdone_any (b : Nat) (s : ByteArray) (p : Nat) (f : Bool) (v : Value) (w : World) (h : Rx w b s p f v) (hp : p ≤ s.size) :
    Calls Tryz.prog 24 #[.pointer (some ⟨b, 0, none⟩)] w fun e w' => e = .returned (.bool (decide (p = s.size))) ∧ ∃ n, w' = w.drewN n := by
  have c0 := h.text
  have c1 := h.at
  have he : ((p : Int) == (s.size : Int)) = decide (p = s.size) := by
    by_cases e : p = s.size
    · rw [decide_eq_true e, e]; simp
    · rw [decide_eq_false e]; exact beq_eq_false_iff_ne.2 (by omega)
  clear h
  go_enter Tryz.func24, Tryz.ntmps24
  go_wp2_with (fail)
  go_quiet (fail)
  go_wp2_with (fail)
  go_ret
  exact ⟨by rw [← he]; rfl, _, rfl⟩
/-- Whether a byte stands at a place. -/
def xAt (s : ByteArray) (p m : Nat) : Bool := decide (p < s.size) && decide (by' (bl s) p = m)
set_option maxHeartbeats 1000000 in
theorem xsees_any (b : Nat) (s : ByteArray) (p m : Nat) (f : Bool) (v : Value) (w : World) (h : Rx w b s p f v) (hp : p ≤ s.size) (hs : s.size ≤ 140737488355328) :
    Calls Tryz.prog 27 #[.pointer (some ⟨b, 0, none⟩), .int .u8 (m : Int)] w fun e w' => e = .returned (.bool (xAt s p m)) ∧ ∃ n, w' = w.drewN n := by
  have kd := xdone_any b s p f v
  have c0 := h.text
  have c1 := h.at
  have HH := hide h
  have KD := hide kd
  have hpI : (p : Int) ≤ 140737488355328 := by omega
  clear kd h
  by_cases hlt : p < s.size
  · have hd : decide (p = s.size) = false := decide_eq_false (by omega)
    have hltI : (p : Int) < (s.size : Int) := by omega
    have hby : by' (bl s) p = (s[p]'hlt).toNat := by'_get s p hlt
    have e1 : xAt s p m = (((s[p]'hlt).toNat : Int) == (m : Int)) := by
      unfold xAt
      rw [decide_eq_true hlt, Bool.true_and, hby]
      by_cases e : (s[p]'hlt).toNat = m
      · rw [decide_eq_true e, e]; simp
      · rw [decide_eq_false e]; exact (beq_eq_false_iff_ne.2 (by omega)).symm
    have HE := hide e1
    clear hby e1
    go_enter Tryz.func27, Tryz.ntmps27
    go_wp2_with (fail)
    go_quiet ((go_at_call 24; refine Calls.quiet_of (KD.out _ (HH.out.drewN _) hp)))
    go_wp2_with (fail)
    go_ret
    exact ⟨by rw [HE.out]; rfl, _, rfl⟩
  · have hd : decide (p = s.size) = true := decide_eq_true (by omega)
    have e1 : xAt s p m = false := by unfold xAt; rw [decide_eq_false hlt, Bool.false_and]
    rw [e1]
    go_enter Tryz.func27, Tryz.ntmps27
    go_wp2_with (fail)
    go_quiet ((go_at_call 24; refine Calls.quiet_of (KD.out _ (HH.out.drewN _) hp)))
    go_wp2_with (fail)
    go_ret
    exact ⟨rfl, _, rfl⟩
set_option maxHeartbeats 1000000 in
theorem xtakes_any (b : Nat) (s : ByteArray) (p m : Nat) (f : Bool) (v : Value) (w : World) (h : Rx w b s p f v) (hp : p ≤ s.size) (hs : s.size ≤ 140737488355328) :
    Calls Tryz.prog 25 #[.pointer (some ⟨b, 0, none⟩), .int .u8 (m : Int)] w fun e w' => e = .returned (.bool (xAt s p m)) ∧ Rx w' b s (if xAt s p m = true then p + 1 else p) f v ∧ w.grownBy w' (some b) := by
  have ks := xsees_any b s p m f v w h hp hs
  have HH := hide h
  have hpI : (p : Int) ≤ 140737488355328 := by omega
  cases hx : xAt s p m with
  | false =>
    rw [hx] at ks
    have KS := hide ks
    clear ks h hx
    go_enter Tryz.func25, Tryz.ntmps25
    go_wp2_with (go_at_call 27; refine (KS.out).mono ?_; rintro e x ⟨rfl, n, hx⟩; have HX := hide hx; clear hx)
    go_ret
    refine ⟨rfl, ?_, ?_⟩
    · rw [HX.out]; exact HH.out.drewN n
    · rw [HX.out]; exact grownX_drewN w n _
  | true =>
    rw [hx] at ks
    have KS := hide ks
    clear ks h hx
    go_enter Tryz.func25, Tryz.ntmps25
    go_wp2_with (go_at_call 27; refine (KS.out).mono ?_; rintro e x ⟨rfl, n, hx⟩; have hr : Rx x b s p f v := (by rw [hx]; exact HH.out.drewN n); have HX := hide hx; have HRX := hide hr; have c1 := hr.at; have z1 := hr.frz 1; clear hx hr)
    go_ret
    refine ⟨rfl, ?_, ?_⟩
    · have := HRX.out.set (p + 1)
      simpa using this
    · have h1 : w.grownBy x (some b) := by rw [HX.out]; exact grownX_drewN w n _
      exact grownX_trans h1 (grownX_set _ _ _ _)
end Go.Proofs.YtodooppapciegaaGreatDoor
