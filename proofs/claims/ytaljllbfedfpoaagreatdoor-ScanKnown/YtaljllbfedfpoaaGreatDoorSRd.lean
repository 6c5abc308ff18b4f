/- The reader of package scan: what done, takes and skip answer, and where the reader stands then. -/
import Derived.Test.YtaljllbfedfpoaaGreatDoorUFirst
import Derived.Deep.QuietTactic
import Derived.BigQuiet
import Derived.WalkKit
import Derived.WalkSmall
namespace Go.Proofs.YtaljllbfedfpoaaGreatDoor
open Go.RowKit
set_option linter.unusedVariables false

/-- A reader stands at a place of a text. -/
def Rd (w : World) (b : Nat) (s : ByteArray) (p : Nat) : Prop := w.heap[b]? = some (.cells #[.string s, .int .i64 (p : Int)] 58 (0, 0))
theorem Rd.text {w : World} {b : Nat} {s : ByteArray} {p : Nat} (h : Rd w b s p) : w.cell? ⟨b, 0, none⟩ = some (.string s) := by
  unfold Rd at h; simp only [World.cell?, h]; rfl
theorem Rd.at {w : World} {b : Nat} {s : ByteArray} {p : Nat} (h : Rd w b s p) : w.cell? ⟨b, 1, none⟩ = some (.int .i64 (p : Int)) := by
  unfold Rd at h; simp only [World.cell?, h]; rfl
theorem Rd.frz {w : World} {b : Nat} {s : ByteArray} {p : Nat} (h : Rd w b s p) : w.frozen? ⟨b, 1, none⟩ = false := by
  unfold Rd at h; simp [World.frozen?, h]
theorem Rd.drewN {w : World} {b : Nat} {s : ByteArray} {p : Nat} (h : Rd w b s p) (n : Nat) : Rd (w.drewN n) b s p := h
theorem Rd.set {w : World} {b : Nat} {s : ByteArray} {p : Nat} (h : Rd w b s p) (q : Nat) : Rd (w.setCell ⟨b, 1, none⟩ (.int .i64 (q : Int))) b s q := by
  have := heap_setCell_same w b 1 _ _ (.int .i64 (q : Int)) h
  exact this
theorem grown_drewN (w : World) (n : Nat) (r : Option Nat) : w.grownBy (w.drewN n) r := ⟨rfl, rfl, rfl, Nat.le_refl _, fun _ _ _ => rfl⟩
theorem grown_set (w : World) (b o : Nat) (v : Value) : w.grownBy (w.setCell ⟨b, o, none⟩ v) (some b) := by
  refine ⟨rfl, rfl, rfl, by simp [World.setCell], fun j hj hr => ?_⟩
  have hne : b ≠ j := fun e => hr (by rw [e])
  simp [World.setCell, Array.getElem?_modify, hne]
theorem grown_trans {a b c : World} {r : Option Nat} (h : a.grownBy b r) (k : b.grownBy c r) : a.grownBy c r :=
  ⟨k.os.trans h.os, k.tape.trans h.tape, k.output.trans h.output, Nat.le_trans h.size k.size, fun j hj hr => (k.block j (Nat.lt_of_lt_of_le hj h.size) hr).trans (h.block j hj hr)⟩

set_option maxHeartbeats 400000 in
theorem done_any (b : Nat) (s : ByteArray) (p : Nat) (w : World) (h : Rd w b s p) (hp : p ≤ s.size) :
    Calls Tryz.prog 28 #[.pointer (some ⟨b, 0, none⟩)] w fun e w' => e = .returned (.bool (decide (p = s.size))) ∧ ∃ n, w' = w.drewN n := by
  have c0 := h.text
  have c1 := h.at
  have he : ((p : Int) == (s.size : Int)) = decide (p = s.size) := by
    by_cases e : p = s.size
    · rw [decide_eq_true e, e]; simp
    · rw [decide_eq_false e]; exact beq_eq_false_iff_ne.2 (by omega)
  clear h
  go_enter Tryz.func28, Tryz.ntmps28
  go_wp2_with (fail)
  go_quiet (fail)
  go_wp2_with (fail)
  go_ret
  exact ⟨by rw [← he]; rfl, _, rfl⟩

/-- Whether a byte stands at a place. -/
def isAt (s : ByteArray) (p m : Nat) : Bool := decide (p < s.size) && decide (by' (bl s) p = m)
set_option maxHeartbeats 1000000 in
theorem takes_any (b : Nat) (s : ByteArray) (p m : Nat) (w : World) (h : Rd w b s p) (hp : p ≤ s.size) (hs : s.size ≤ 140737488355328) :
    Calls Tryz.prog 29 #[.pointer (some ⟨b, 0, none⟩), .int .u8 (m : Int)] w fun e w' => e = .returned (.bool (isAt s p m)) ∧ Rd w' b s (if isAt s p m then p + 1 else p) ∧ w.grownBy w' (some b) := by
  have kd := done_any b s p
  have c0 := h.text
  have c1 := h.at
  have fz := h.frz
  have HH := hide h
  have KD := hide kd
  have hpI : (p : Int) ≤ 140737488355328 := by omega
  clear kd h
  by_cases hlt : p < s.size
  · have hd : decide (p = s.size) = false := decide_eq_false (by omega)
    have hltI : (p : Int) < (s.size : Int) := by omega
    have hby : by' (bl s) p = (s[p]'hlt).toNat := by'_get s p hlt
    by_cases hm : by' (bl s) p = m
    · have e1 : isAt s p m = true := by unfold isAt; rw [decide_eq_true hlt, decide_eq_true hm]; rfl
      have hq : (((s[p]'hlt).toNat : Int) == (m : Int)) = true := by rw [← hby, hm]; simp
      rw [e1]
      clear hby hm e1
      go_enter Tryz.func29, Tryz.ntmps29
      go_wp2_with (fail)
      go_quiet ((go_at_call 28; refine Calls.quiet_of (KD.out _ (HH.out.drewN _) hp)))
      go_wp2_with (fail)
      go_ret
      refine ⟨rfl, ?_, grown_trans (grown_drewN w nq _) (grown_set _ _ _ _)⟩
      have := (HH.out.drewN nq).set (p + 1)
      simpa using this
    · have e1 : isAt s p m = false := by unfold isAt; rw [decide_eq_false hm, Bool.and_false]
      have hq : (((s[p]'hlt).toNat : Int) == (m : Int)) = false := by rw [← hby]; exact beq_eq_false_iff_ne.2 (by omega)
      rw [e1]
      clear hby hm e1
      go_enter Tryz.func29, Tryz.ntmps29
      go_wp2_with (fail)
      go_quiet ((go_at_call 28; refine Calls.quiet_of (KD.out _ (HH.out.drewN _) hp)))
      go_wp2_with (fail)
      go_ret
      exact ⟨rfl, HH.out.drewN nq, grown_drewN w nq _⟩
  · have hd : decide (p = s.size) = true := decide_eq_true (by omega)
    have e1 : isAt s p m = false := by unfold isAt; rw [decide_eq_false hlt, Bool.false_and]
    rw [e1]
    go_enter Tryz.func29, Tryz.ntmps29
    go_wp2_with (fail)
    go_quiet ((go_at_call 28; refine Calls.quiet_of (KD.out _ (HH.out.drewN _) hp)))
    go_wp2_with (fail)
    go_ret
    exact ⟨rfl, HH.out.drewN nq, grown_drewN w nq _⟩
theorem takes_no (b : Nat) (s : ByteArray) (p m : Nat) (w : World) (h : Rd w b s p) (hp : p ≤ s.size) (hs : s.size ≤ 140737488355328) (hi : isAt s p m = false) :
    Calls Tryz.prog 29 #[.pointer (some ⟨b, 0, none⟩), .int .u8 (m : Int)] w fun e w' => e = .returned (.bool false) ∧ Rd w' b s p ∧ w.grownBy w' (some b) := by
  have := takes_any b s p m w h hp hs
  rw [hi] at this
  exact this
theorem takes_yes (b : Nat) (s : ByteArray) (p m : Nat) (w : World) (h : Rd w b s p) (hp : p ≤ s.size) (hs : s.size ≤ 140737488355328) (hi : isAt s p m = true) :
    Calls Tryz.prog 29 #[.pointer (some ⟨b, 0, none⟩), .int .u8 (m : Int)] w fun e w' => e = .returned (.bool true) ∧ Rd w' b s (p + 1) ∧ w.grownBy w' (some b) := by
  have := takes_any b s p m w h hp hs
  rw [hi] at this
  exact this
/-- How many bytes of a kind a text begins with. -/
def skp (is : Nat → Bool) : List UInt8 → Nat
  | [] => 0
  | b :: t => if is b.toNat then skp is t + 1 else 0
theorem skp_le (is : Nat → Bool) (l : List UInt8) : skp is l ≤ l.length := by
  induction l with
  | nil => exact Nat.le_refl _
  | cons b t ih => simp only [skp, List.length_cons]; split <;> omega
theorem skp_step {is : Nat → Bool} {l : List UInt8} {p : Nat} (hp : p < l.length) (h : is (by' l p) = true) : skp is (l.drop p) = skp is (l.drop (p + 1)) + 1 := by
  rw [List.drop_eq_getElem_cons hp]
  have e : by' l p = (l[p]).toNat := by unfold by'; rw [List.getElem?_eq_getElem hp]; rfl
  rw [e] at h
  simp only [skp, if_pos h]
theorem skp_stop {is : Nat → Bool} {l : List UInt8} {p : Nat} (hp : p < l.length) (h : is (by' l p) = false) : skp is (l.drop p) = 0 := by
  rw [List.drop_eq_getElem_cons hp]
  have e : by' l p = (l[p]).toNat := by unfold by'; rw [List.getElem?_eq_getElem hp]; rfl
  rw [e] at h
  simp [skp, h]
set_option maxHeartbeats 2000000 in
theorem skip_any (g : Nat) (is : Nat → Bool) (hg : ∀ (c : Nat) (w' : World), c < 256 → Calls Tryz.prog g #[.int .u8 (c : Int)] w' fun e w'' => e = .returned (.bool (is c)) ∧ w'' = w')
    (hen : ∀ args w', (callFunc g args).run Tryz.prog w' = .ok (.enter g args) w')
    (b : Nat) (s : ByteArray) (p : Nat) (w : World) (h : Rd w b s p) (hp : p ≤ s.size) (hs : s.size ≤ 140737488355328) :
    Calls Tryz.prog 26 #[.pointer (some ⟨b, 0, none⟩), .func (.func g) #[] #[]] w fun e w' => e = .returned (.bool (decide (0 < skp is ((bl s).drop p)))) ∧ Rd w' b s (p + skp is ((bl s).drop p)) ∧ w.grownBy w' (some b) := by
  have kd := done_any b s
  have HH := hide h
  have KD := hide kd
  have HG := hide hg
  have c1 := h.at
  have hsl := skp_le is ((bl s).drop p)
  rw [List.length_drop, bl_len] at hsl
  obtain ⟨E, hE⟩ : ∃ E, p + skp is ((bl s).drop p) = E := ⟨_, rfl⟩
  have hEs : E ≤ s.size := by omega
  have hpE : p ≤ E := by omega
  have HE := hide hE
  have hres : decide (0 < skp is ((bl s).drop p)) = decide (p < E) := by
    by_cases e : 0 < skp is ((bl s).drop p)
    · rw [decide_eq_true e, decide_eq_true (by omega)]
    · rw [decide_eq_false e, decide_eq_false (by omega)]
  rw [hres, hE]
  clear kd h hE hsl hg hres
  go_enter Tryz.func26, Tryz.ntmps26
  go_wp2_with (fail)
  go_loopw [] (fun wr => ∃ q : Nat, p ≤ q ∧ q ≤ s.size ∧ q + skp is ((bl s).drop q) = E ∧ Rd wr b s q ∧ w.grownBy wr (some b)) (fun wr => s.size - (intOf ((wr.cell? ⟨b, 1, none⟩).getD undef)).toNat)
  case atStart => exact ⟨p, Nat.le_refl _, hp, HE.out, HH.out, grown_drewN w 0 _⟩
  case round =>
    obtain ⟨q, hpq, hqs, hqE, hR, hgr⟩ := hrel
    have d0 := hR.text
    have d1 := hR.at
    have df := hR.frz
    have HR := hide hR
    have HGR := hide hgr
    have HQE := hide hqE
    have hqI : (q : Int) ≤ 140737488355328 := by omega
    clear hR hgr c1
    by_cases hlt : q < s.size
    · have hd : decide (q = s.size) = false := decide_eq_false (by omega)
      have hltI : (q : Int) < (s.size : Int) := by omega
      have hby : by' (bl s) q = (s[q]'hlt).toNat := by'_get s q hlt
      have hb256 : (s[q]'hlt).toNat < 256 := UInt8.toNat_lt _
      have hlb : q < (bl s).length := by rw [bl_len]; exact hlt
      have kg := fun w' => HG.out (s[q]'hlt).toNat w' hb256
      have KG := hide kg
      by_cases hi : is (by' (bl s) q) = true
      · have hst := skp_step hlb hi
        rw [hby] at hi
        rw [hi] at KG
        have HST := hide hst
        clear hst hby hi kg hqE
        go_wp2_with (fail)
        go_quiet (first | (go_at_call 28; refine Calls.quiet_of (KD.out _ _ (HR.out.drewN _) hqs)) | (refine Calls.quiet_of_same (KG.out _)))
        go_wp2_with (fail)
        go_roundw
        case rel =>
          refine ⟨q + 1, by omega, by omega, by rw [← HQE.out, HST.out]; omega, ?_, grown_trans (grown_trans HGR.out (grown_drewN wr nq _)) (grown_set _ _ _ _)⟩
          have := (HR.out.drewN nq).set (q + 1)
          simpa using this
        case measure =>
          have e1 := ((HR.out.drewN nq).set (q + 1)).at
          have e2 := HR.out.at
          push_cast at e1
          rw [e1, e2]
          simp [intOf]
          omega
      · have hi' : is (by' (bl s) q) = false := by simpa using hi
        have hst := skp_stop hlb hi'
        rw [hby] at hi'
        rw [hi'] at KG
        have hqe : q = E := by rw [← hqE, hst]; rfl
        subst hqe
        clear hst hby hi hi' kg hqE
        go_wp2_with (fail)
        go_quiet (first | (go_at_call 28; refine Calls.quiet_of (KD.out _ _ (HR.out.drewN _) hqs)) | (refine Calls.quiet_of_same (KG.out _)))
        go_wp2_with (fail)
        go_ret
        exact ⟨rfl, HR.out.drewN nq, grown_trans HGR.out (grown_drewN wr nq _)⟩
    · have hd : decide (q = s.size) = true := decide_eq_true (by omega)
      have hqe : q = E := by
        rw [← hqE, List.drop_eq_nil_of_le (by rw [bl_len]; omega)]; rfl
      subst hqe
      clear hqE
      go_wp2_with (fail)
      go_quiet (first | (go_at_call 28; refine Calls.quiet_of (KD.out _ _ (HR.out.drewN _) hqs)))
      go_wp2_with (fail)
      go_ret
      exact ⟨rfl, HR.out.drewN nq, grown_trans HGR.out (grown_drewN wr nq _)⟩
end Go.Proofs.YtaljllbfedfpoaaGreatDoor
