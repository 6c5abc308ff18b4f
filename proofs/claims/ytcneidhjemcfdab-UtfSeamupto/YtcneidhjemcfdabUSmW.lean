/- The road of UtfSeam where nothing is closed at the seam: it returns true, and writes nothing that was there. -/
import Derived.Test.YtcneidhjemcfdabUSeam
import Derived.Test.YtcneidhjemcfdabUJoin
import Derived.Test.YtcneidhjemcfdabUSmM
import Derived.Deep.QuietTactic
import Derived.Deep.RegionWith
import Derived.Deep.DeepCutAuto
import Derived.BigQuiet
namespace Go.Proofs.Ytcneidhjemcfdab
open Go.RowKit
set_option linter.unusedVariables false

namespace utfSeam
def AnsI (f : Nat) (args : Array Value) (n : Int) : Prop := ∀ w, Calls Try.prog f args w fun e w' => e = .returned (.int .i64 n) ∧ Below w.heap.size w w'

theorem runesZ_V (l : List UInt8) : runesZ l = (runesV l).map (fun (n : Nat) => (n : Int)) := by
  unfold runesZ runesV
  rw [List.map_map]
  rfl

theorem smfacts (la lb : List UInt8) : ∃ n k : Nat, n = pendingV la ∧ k = closesV (la.drop (la.length - n)) lb ∧ n ≤ 3 ∧ n ≤ la.length ∧ k ≤ lb.length ∧ n + k ≤ 4 ∧ (n = 0 → k = 0) ∧
    ((k = 0 ∧ runesZ (la ++ lb) = runesZ la ++ runesZ lb) ∨
     (0 < k ∧ ∃ R S : List Int, runesZ la = R ++ List.replicate n 65533 ∧ runesZ lb = List.replicate k 65533 ++ S ∧ runesZ (la ++ lb) = R ++ (rune (la.drop (la.length - n) ++ lb.take k) : Int) :: S ∧
       W (la.drop (la.length - n) ++ lb.take k) = n + k ∧ (Cs 0 (la.drop (la.length - n))).length = n ∧ (Cs 0 (lb.take k)).length = k)) := by
  obtain ⟨n, k, hn, hk, h3, hni, hkb, hnk, h0, hb, hcase⟩ := seam (la ++ lb) la.length (by rw [List.length_append]; omega)
  have hcut : ((la ++ lb).drop (la.length - n)).take (n + k) = la.drop (la.length - n) ++ lb.take k := by
    have := cut_eq (la ++ lb) la.length (la.length - n) (by omega) (by rw [List.length_append]; omega) k
    rw [List.take_left, List.drop_left, show la.length - (la.length - n) + k = n + k by omega] at this
    exact this.symm
  rw [List.take_left] at hn hk
  rw [List.drop_left] at hk hkb
  rw [List.take_left, List.drop_left, hcut] at hcase
  refine ⟨n, k, hn, hk, h3, hni, hkb, hnk, h0, ?_⟩
  rcases hcase with ⟨h, e⟩ | ⟨h, R, S, e1, e2, e3, e4, e5, e6⟩
  · refine .inl ⟨h, ?_⟩
    rw [runesZ_V, runesZ_V, runesZ_V, e, List.map_append]
  · refine .inr ⟨h, R.map (fun (n : Nat) => (n : Int)), S.map (fun (n : Nat) => (n : Int)), ?_, ?_, ?_, e4, ?_, ?_⟩
    · rw [runesZ_V, e1, List.map_append, List.map_replicate]; rfl
    · rw [runesZ_V, e2, List.map_append, List.map_replicate]; rfl
    · rw [runesZ_V, e3, List.map_append, List.map_cons]
    · rw [← runesV_len, e5, List.length_replicate]
    · rw [← runesV_len, e6, List.length_replicate]

/-- What Runes answers, for a walk. -/
def AnsR (s : ByteArray) (c : Nat) (Z : List Int) : Prop := Z.length = c ∧ ∀ w, Calls Try.prog 16 #[.string s] w fun e w' => ∃ g, e = .returned (.slice (some ⟨g, 0, none⟩) c c) ∧ SlU w' (some ⟨g, 0, none⟩) Z ∧ g < w'.heap.size ∧ Below w.heap.size w w'

theorem ansR (s : ByteArray) (hs : s.size ≤ 35184372088832) : AnsR s (Cs 0 (bl s)).length (runesZ (bl s)) := by
  refine ⟨runesZ_len _, fun w => (runes_any s w hs).mono ?_⟩
  rintro e w' ⟨g, rfl, ho, hB⟩
  have hlt := (ho.lt g rfl).2
  rw [← runesZ_len] at ho
  obtain ⟨a, cap, he, hsl⟩ := slu_of_owns ho
  cases he
  exact ⟨g, rfl, hsl, hlt, hB⟩

theorem one_slu (w : World) (r : Int) (h : Nat) (hh : h = w.heap.size) : SlU (w.alloc (.cells #[.int .i32 r] 21)) (some ⟨h, 0, none⟩) [r] := by
  subst hh
  refine .inr ⟨_, _, rfl, by simp, fun i x hx => ?_⟩
  match i, hx with
  | 0, hx => simp at hx; subst hx; simp
  | n + 1, hx => simp at hx

theorem join_sl (ax ay : Addr) (cx cy n m : Nat) (xs ys : List Int) (w : World) (hn : xs.length = n) (hm : ys.length = m) (hx : SlU w (some ax) xs) (hy : SlU w (some ay) ys) (hb : ys = [] ∨ ay.block < w.heap.size) (hl : n + m ≤ 35184372088832) :
    Calls Try.prog 22 #[.slice (some ax) n cx, .slice (some ay) m cy] w fun e w' => ∃ a cap, e = .returned (.slice a (n + m) cap) ∧ SlU w' a (xs ++ ys) ∧ (0 < n + m → ∃ g, a = some ⟨g, 0, none⟩ ∧ g < w'.heap.size) ∧ Below w.heap.size w w' := by
  subst hn hm
  refine (join_any ax ay cx cy xs ys w hx hy hb hl).mono ?_
  rintro e w' ⟨v, rfl, ho, hB⟩
  rw [← List.length_append] at ho ⊢
  obtain ⟨a, cap, rfl, hsl⟩ := slu_of_owns ho
  refine ⟨a, cap, rfl, hsl, fun h => ?_, hB⟩
  rcases ho.2 with ⟨_, h0⟩ | ⟨g, cap', cur, hv, hg, hh, _⟩
  · omega
  · cases hv
    exact ⟨g, rfl, (Array.getElem?_eq_some_iff.1 hh).1⟩

set_option maxRecDepth 100000 in
set_option maxHeartbeats 4000000 in
theorem walk0 (a b : ByteArray) (w : World) (hs : a.size + b.size ≤ 1048576) (h00 : closesV ((bl a).drop (a.size - pendingV (bl a))) (bl b) = 0) :
    Calls Try.prog 4 #[.string a, .string b] w fun e w' => e = .returned (.bool true) ∧ Below w.heap.size w w' := by
  obtain ⟨n, k, hn, hk, h3, hna, hkb, hnk, h0, hcase⟩ := smfacts (bl a) (bl b)
  rw [bl_len] at hna hkb hk hcase
  have hpend : AnsI 20 #[.string a] n := fun w => by rw [hn]; exact pending_any a w (by omega)
  have hclo : AnsI 21 #[.string (a.extract (a.size - n) a.size), .string b] k := fun w => by
    have := closes_any (a.extract (a.size - n) a.size) b w (by omega)
    rw [bl_from, ← hk] at this
    exact this
  have hlA := Cs_len_le (bl a)
  have hlB := Cs_len_le (bl b)
  rw [bl_len] at hlA hlB
  obtain ⟨zl, rZ⟩ := ansR (a ++ b) (by rw [ByteArray.size_append]; omega)
  obtain ⟨xl, rX⟩ := ansR a (by omega)
  obtain ⟨yl, rY⟩ := ansR b (by omega)
  have cA : AnsI 14 #[.string a] ((Cs 0 (bl a)).length : Nat) := fun w => count_any a w (by omega)
  have cB : AnsI 14 #[.string b] ((Cs 0 (bl b)).length : Nat) := fun w => count_any b w (by omega)
  rw [bl_append] at rZ zl
  have hZl := Cs_len_le (bl a ++ bl b)
  rw [List.length_append, bl_len, bl_len] at hZl
  generalize (Cs 0 (bl a ++ bl b)).length = c at *
  generalize (Cs 0 (bl a)).length = ca at *
  generalize (Cs 0 (bl b)).length = cb at *
  have hP := hide hpend
  have hC := hide hclo
  have hZ := hide rZ
  have hX := hide rX
  have hY := hide rY
  have hcA := hide cA
  have hcB := hide cB
  have e1 : ((a.size : Int) - (n : Int)).toNat = a.size - n := by omega
  have i1 : (n : Int) ≤ 3 := by omega
  have i2 : (n : Int) ≤ (a.size : Int) := by omega
  have i3 : (k : Int) ≤ 3 := by omega
  have i4 : (k : Int) ≤ (b.size : Int) := by omega
  have i5 : (n : Int) + (k : Int) ≤ 4 := by omega
  have i6 : (a.size : Int) ≤ 1048576 := by omega
  have i7 : (b.size : Int) ≤ 1048576 := by omega
  clear hpend hclo rZ rX rY cA cB
  have M1 := hide trivial
  have M2 := hide trivial
  have M3 := hide trivial
  rcases hcase with ⟨rfl, hzz⟩ | ⟨hk0, R, S, e1', e2', e3', hW, hcp, hcq⟩
  · rw [hzz] at zl hZ
    generalize runesZ (bl a ++ bl b) = Z0 at *
    generalize runesZ (bl a) = X at *
    generalize runesZ (bl b) = Y at *
    have zl2 : ca + cb = c := by rw [← zl, List.length_append, xl, yl]
    have kj := fun (w : World) (gx gy : Nat) (h1 : SlU w (some ⟨gx, 0, none⟩) X) (h2 : SlU w (some ⟨gy, 0, none⟩) Y) (h3 : gy < w.heap.size) => join_sl ⟨gx, 0, none⟩ ⟨gy, 0, none⟩ ca cb ca cb X Y w xl yl h1 h2 (.inr h3) (by omega)
    rw [zl2] at kj
    have KJ := hide kj
    have ks := fun (w : World) (a b : Option Addr) (c1 d : Nat) (h1 : SlU w a (X ++ Y)) (h2 : SlU w b (X ++ Y)) => same_yes a b c1 d (X ++ Y) c zl w h1 h2 (by omega)
    have KS := hide ks
    clear hzz hn hk kj ks zl xl yl h00
    go_enter Try.func4, Try.ntmps4
    go_wp2_with (first | (go_at_call 9; refine (awake_any _).mono ?_; rintro e w0 ⟨rfl, hB0⟩) | (go_at_call 20; refine (hP.out _).mono ?_; rintro e w1 ⟨rfl, hB1⟩) | (go_at_call 21; refine (hC.out _).mono ?_; rintro e w2 ⟨rfl, hB2⟩) | (go_at_call 16; clear M1; refine (hZ.out _).mono ?_; rintro e w3 ⟨gz, rfl, sz, lz, hB3⟩) | (go_at_call 16; clear M2; refine (hX.out _).mono ?_; rintro e w4 ⟨gx, rfl, sx, lx, hB4⟩) | (go_at_call 16; refine (hY.out _).mono ?_; rintro e w5 ⟨gy, rfl, sy, ly, hB5⟩) | (go_at_call 14; clear M3; refine (hcA.out _).mono ?_; rintro e w6 ⟨rfl, hB6⟩) | (go_at_call 14; refine (hcB.out _).mono ?_; rintro e w7 ⟨rfl, hB7⟩) | (go_at_call 22; refine (KJ.out _ _ _ (((sx.below hB5).below hB6).below hB7) ((sy.below hB6).below hB7) (by have := hB6.size; have := hB7.size; omega)).mono ?_; rintro e w8 ⟨aj, cj, rfl, sj, lj, hB8⟩) | (go_at_call 15; refine (KS.out _ _ _ _ _ ((((((sz.below hB4).below hB5).below hB6).below hB7).below hB8)) sj).mono ?_; rintro e w9 ⟨rfl, hB9⟩))
    all_goals
      go_ret
      exact ⟨rfl, bseq (bseq (bseq (bseq (bseq (bseq (bseq (bseq (bseq hB0 hB1) hB2) hB3) hB4) hB5) hB6) hB7) hB8) hB9⟩
  · rw [← hn, ← hk] at h00; omega
end utfSeam
end Go.Proofs.Ytcneidhjemcfdab
