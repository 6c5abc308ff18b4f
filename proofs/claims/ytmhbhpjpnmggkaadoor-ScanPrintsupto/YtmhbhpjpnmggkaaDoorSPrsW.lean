/- ScanPrints, walked. -/
import Derived.Test.YtmhbhpjpnmggkaaDoorSSpr
import Derived.Test.YtmhbhpjpnmggkaaDoorSRPrn
namespace Go.Proofs.YtmhbhpjpnmggkaaDoor
open Go.RowKit Go.Shelf
set_option linter.unusedVariables false

set_option maxRecDepth 100000 in
set_option maxHeartbeats 4000000 in
theorem same_toks (a b : Option Addr) (c d : Nat) (xs : List TkI) (w : World) (ha : SlK w a xs) (hb : SlK w b xs) (hl : xs.length ≤ 1048576) :
    Calls Tryd.prog 34 #[.slice a xs.length c, .slice b xs.length d] w fun e w' => e = .returned (.bool true) ∧ ∃ n, w' = w.drewN n := by
  have HA := hide ha
  have HB := hide hb
  have g0 := Tryd.noGuardTk
  have hlI : (xs.length : Int) ≤ 1048576 := by omega
  clear ha hb
  go_enter Tryd.func34, Tryd.ntmps34
  go_wp2
  go_loopw [5] (fun i wr => ∃ k n : Nat, i = .int .i64 (k : Int) ∧ k ≤ xs.length ∧ wr = w.drewN n) (fun i _ => xs.length - (intOf i).toNat)
  case atStart => exact ⟨0, 0, rfl, Nat.zero_le _, rfl⟩
  case round =>
    obtain ⟨k, n, rfl, hk, hwr⟩ := hrel
    by_cases hlt : k < xs.length
    · have hltI : (k : Int) < (xs.length : Int) := by omega
      have hxk : xs[k]? = some xs[k] := List.getElem?_eq_getElem hlt
      have ha' : SlK wr a xs := by rw [hwr]; exact HA.out
      have hb' : SlK wr b xs := by rw [hwr]; exact HB.out
      obtain ⟨b0, off, rfl, v0, v1, v2, v3⟩ := tok_cells ha' hxk
      obtain ⟨b1, off1, rfl, u0, u1, u2, u3⟩ := tok_cells hb' hxk
      generalize xs[k] = x at *
      obtain ⟨k', a', t', n'⟩ := x
      simp only at v0 v1 v2 v3 u0 u1 u2 u3
      have g1 := fun W => eql_tk k' a' t' n' W
      have HWR := hide hwr
      clear ha' hb' hxk hwr
      go_wp2_with (fail)
      go_quiet (fail)
      go_wp2_with (fail)
      go_roundw
      case rel => exact ⟨k + 1, n + nq, by go_num, by omega, by rw [HWR.out, World.drewN_drewN]⟩
      case measure => simp [intOf]; omega
    · have hge : (xs.length : Int) ≤ (k : Int) := by omega
      go_wp2
      go_ret
      exact ⟨rfl, n, rfl⟩
theorem slk_left {W : World} {a : Option Addr} {xs ys : List TkI} (h : SlK W a (xs ++ ys)) : SlK W a xs := by
  rcases h with h | ⟨b, off, ha, hb, hc⟩
  · exact .inl (List.append_eq_nil_iff.1 h).1
  · refine .inr ⟨b, off, ha, hb, fun i x hx => hc i x ?_⟩
    rw [List.getElem?_append_left (List.getElem?_eq_some_iff.1 hx).1]
    exact hx
set_option maxRecDepth 100000 in
set_option maxHeartbeats 4000000 in
theorem kept_any (g c : Nat) (b : Option Addr) (d : Nat) (xs : List TkI) (w : World) (ha : SlK w (some ⟨g, 0, none⟩) (xs ++ marksI 5)) (hb : SlK w b xs) (hc : xs.length + 5 ≤ c) (hl : xs.length ≤ 1048576) :
    Calls Tryd.prog 13 #[.slice (some ⟨g, 0, none⟩) xs.length c, .slice b xs.length d] w fun e w' => e = .returned (.bool true) ∧ ∃ n, w' = w.drewN n := by
  have HA := hide ha
  have HB := hide hb
  have g0 := Tryd.noGuardTk
  have hlI : (xs.length : Int) ≤ 1048576 := by omega
  have hcI : (xs.length : Int) + 5 ≤ (c : Int) := by omega
  clear ha hb
  go_enter Tryd.func13, Tryd.ntmps13
  go_wp2_with (fail)
  go_loop [6] (fun i => ∃ k : Nat, i = .int .i64 (k : Int) ∧ k ≤ 5) (fun i => 5 - (intOf i).toNat)
  case atStart => exact ⟨0, rfl, Nat.zero_le _⟩
  case round =>
    obtain ⟨k, rfl, hk⟩ := hrel
    by_cases hlt : k < 5
    · have hltI : (k : Int) < 5 := by omega
      have hxk : (xs ++ marksI 5)[xs.length + k]? = some (9, 0, ⟨#[]⟩, (k : Int)) := by
        rw [List.getElem?_append_right (by omega), Nat.add_sub_cancel_left]
        exact marks_at 5 k hlt
      obtain ⟨b0, off, h0, v0, v1, v2, v3⟩ := tok_cells HA.out hxk
      cases h0
      simp only [Nat.zero_add] at v0 v1 v2 v3
      have g1 := fun W => eql_tk 9 0 ⟨#[]⟩ (k : Int) W
      clear hxk
      go_wp2_with (fail)
      go_round
      case rel => exact ⟨k + 1, by go_num, by omega⟩
      case measure => simp [intOf]; omega
    · have hltI : (5 : Int) ≤ (k : Int) := by omega
      have ks := same_toks (some ⟨g, 0, none⟩) b c d xs w (slk_left HA.out) HB.out hl
      have KS := hide ks
      clear ks
      go_wp2_with (go_at_call 34; refine (KS.out).mono ?_; rintro e x ⟨rfl, n, hx⟩; subst hx)
      go_ret
      exact ⟨rfl, n, rfl⟩
theorem flat_len (xs : List TkI) (S : Nat) (hb : ∀ x ∈ xs, (pT x).length ≤ 4 * x.2.2.1.size + 23) (hS : (xs.map (fun x => x.2.2.1.size)).sum ≤ S) : (xs.flatMap (fun y => (32 : UInt8) :: pT y)).length ≤ 4 * S + 24 * xs.length := by
  induction xs generalizing S with
  | nil => simp
  | cons x xs ih =>
    simp only [List.map_cons, List.sum_cons] at hS
    have h1 := hb x List.mem_cons_self
    have h2 := ih (S - x.2.2.1.size) (fun y hy => hb y (List.mem_cons_of_mem _ hy)) (by omega)
    rw [List.flatMap_cons, List.length_append]
    simp only [List.length_cons]
    omega
theorem prJ_len (xs : List TkI) (S : Nat) (hn : ∀ x ∈ xs, -9223372036854775808 ≤ x.2.2.2 ∧ x.2.2.2 ≤ 9223372036854775807) (hS : (xs.map (fun x => x.2.2.1.size)).sum ≤ S) : (prJ xs).length ≤ 4 * S + 24 * xs.length := by
  have hb : ∀ x ∈ xs, (pT x).length ≤ 4 * x.2.2.1.size + 23 := by
    intro x hx
    unfold pT
    split
    · have := Lib.itoa_length_le _ (hn x hx).1 (hn x hx).2
      omega
    · split
      · have := qo_len (bl x.2.2.1)
        rw [bl_len] at this
        simp only [List.length_cons, List.length_append, List.length_nil]
        omega
      · rw [bl_len]; omega
  have h1 := flat_len xs S hb hS
  cases xs with
  | nil => simp [prJ]
  | cons x xs =>
    rw [List.flatMap_cons, List.length_append, List.length_cons] at h1
    simp only [prJ, List.length_append]
    omega
theorem sum_mem {xs : List TkI} {S : Nat} (hS : (xs.map (fun x => x.2.2.1.size)).sum ≤ S) : ∀ x ∈ xs, x.2.2.1.size ≤ S := by
  induction xs generalizing S with
  | nil => intro x hx; simp at hx
  | cons y ys ih =>
    simp only [List.map_cons, List.sum_cons] at hS
    intro x hx
    rcases List.mem_cons.1 hx with h | h
    · subst h; omega
    · exact Nat.le_trans (ih (S := S - y.2.2.1.size) (by omega) x h) (by omega)
set_option maxRecDepth 100000 in
set_option maxHeartbeats 8000000 in
theorem prints_road (a : Option Addr) (cap : Nat) (xs : List TkI) (w : World) (hx : SlK w a xs) (hl : xs.length ≤ 1048576) (hna : a = none → xs.length = 0 ∧ cap = 0) (hS : (xs.map (fun x => x.2.2.1.size)).sum ≤ 1048576)
    (hn : ∀ x ∈ xs, -9223372036854775808 ≤ x.2.2.2 ∧ x.2.2.2 ≤ 9223372036854775807) (hL : LaidW w) (hZ : LaidZ w) :
    Calls Tryd.prog 4 #[.slice a xs.length cap] w fun e w' => e = .returned (.bool true) ∧ Below w.heap.size w w' := by
  have hbd : ∀ x ∈ xs, x.2.2.1.size ≤ 17592186044416 ∧ -9223372036854775808 ≤ x.2.2.2 ∧ x.2.2.2 ≤ 9223372036854775807 := fun x h => ⟨Nat.le_trans (sum_mem hS x h) (by omega), hn x h⟩
  have hJ : (prJ xs).length ≤ 1000000000 := Nat.le_trans (prJ_len xs 1048576 hn hS) (by omega)
  have ks := spare_any a cap xs w hx hl hna
  have kp := fun g c W h hL hZ => print_any (some ⟨g, 0, none⟩) c xs W h hL hZ (by omega) hbd
  have kr := fun W h hL hZ => rprint_any a cap xs W h hL hZ (by omega) hJ hbd
  generalize (⟨(prV xs).1.toArray⟩ : ByteArray) = Q at *
  generalize (prV xs).2 = E at *
  have KS := hide ks
  have KP := hide kp
  have KR := hide kr
  have HX := hide hx
  have HL := hide hL
  have HZ := hide hZ
  clear ks kp kr hx hL hZ hbd hJ hS hn
  go_enter Tryd.func4, Tryd.ntmps4
  go_wp2_with (first | (go_at_call 10; refine (KS.out).mono ?_; rintro e x ⟨g, c, rfl, hc, hsl, hbx⟩; have HSL := hide hsl; have HBX := hide hbx; clear hsl hbx) | (go_at_call 11; refine (KP.out g c _ (slk_left HSL.out) (HL.out.below HBX.out) (HZ.out.below HBX.out)).mono ?_; rintro e y ⟨rfl, hby⟩; have HSL2 := hide (HSL.out.below hby); have HBY := hide (bseq HBX.out hby); clear hby HSL) | (go_at_call 12; refine (KR.out _ (HX.out.below HBY.out) (HL.out.below HBY.out) (HZ.out.below HBY.out)).mono ?_; rintro e z ⟨rfl, hbz⟩; have HSL3 := hide (HSL2.out.below hbz); have HBZ := hide (bseq HBY.out hbz); clear hbz HSL2) | (go_at_call 13; refine (kept_any g c a cap xs _ HSL3.out (HX.out.below HBZ.out) hc hl).mono ?_; rintro e u ⟨rfl, n, hu⟩; have HBU := hide (below_drewN HBZ.out n); rw [← hu] at HBU; clear hu HSL3) | (go_at_call 9; refine (works_any _ (HL.out.below HBU.out) (HZ.out.below HBU.out)).mono ?_; rintro e q ⟨rfl, hq⟩))
  go_ret
  exact ⟨rfl, bseq HBU.out hq⟩
end Go.Proofs.YtmhbhpjpnmggkaaDoor
