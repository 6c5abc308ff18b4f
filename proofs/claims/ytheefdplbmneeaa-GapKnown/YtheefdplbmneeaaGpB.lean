/- A gap: what its small methods answer. -/
import Derived.Test.YtheefdplbmneeaaGpA
import Derived.Laws.BytesString
import Derived.Lib.ConvBytes
namespace Go.Proofs.Ytheefdplbmneeaa
open Go.RowKit
set_option linter.unusedVariables false
set_option linter.unusedSimpArgs false

section
variable {w : World} {g p f to : Nat} {S : ByteArray} {d : List Nat}
theorem none_c (h : GapC w g f to d) : Calls Try.prog 38 #[.pointer (some ⟨g, 0, none⟩)] w fun e w' => e = .returned (.bool false) ∧ w' = w := by
  have c0 := h.c0
  have hq := gp_neq ⟨g, 0, none⟩ w
  clear h
  go_enter Try.func38, Try.ntmps38
  go_wp2
  go_ret
  exact ⟨rfl, rfl⟩
theorem room_c (h : GapC w g f to d) (h1 : f ≤ to) (h2 : to ≤ 252) : Calls Try.prog 21 #[.pointer (some ⟨g, 0, none⟩)] w fun e w' => e = .returned (.int .i64 ((to - f : Nat) : Int)) ∧ ∃ n, w' = w.drewN n := by
  have c1 := h.c1
  have c2 := h.c2
  have HH := hide h
  clear h
  go_enter Try.func21, Try.ntmps21
  go_wp2_with (go_at_call 38; refine (none_c HH.out).mono ?_; rintro e w' ⟨rfl, rfl⟩)
  have hw : IntKind.i64.wrap ((to : Int) - (f : Int)) = ((to - f : Nat) : Int) := by rw [IntKind.wrap_i64]; omega
  go_quiet (fail)
  go_wp2_with (fail)
  go_ret
  exact ⟨rfl, nq, rfl⟩
theorem room_any (h : GapL w g S p) : Calls Try.prog 21 #[.pointer (some ⟨g, 0, none⟩)] w fun e w' => e = .returned (.int .i64 ((252 - S.size : Nat) : Int)) ∧ ∃ n, w' = w.drewN n := by
  have k := room_c h.2.2 (by omega) (by have := h.1; have := h.2.1; omega)
  rwa [show p + (252 - S.size) - p = 252 - S.size by omega] at k
theorem len_any (h : GapL w g S p) : Calls Try.prog 20 #[.pointer (some ⟨g, 0, none⟩)] w fun e w' => e = .returned (.int .i64 (S.size : Int)) ∧ ∃ n, w' = w.drewN n := by
  have hs := h.2.1
  obtain ⟨z, hz⟩ : ∃ z, z = 252 - S.size := ⟨_, rfl⟩
  have kr := room_any h
  rw [← hz] at kr
  have KR := hide kr
  have KN := hide (none_c h.2.2)
  have hzI : (z : Int) ≤ 252 := by omega
  have HZ := hide hz
  have HS := hide hs
  clear h kr hz hs
  go_enter Try.func20, Try.ntmps20
  go_wp2_with (first | (go_at_call 38; refine (KN.out).mono ?_; rintro e w' ⟨rfl, rfl⟩) | (go_at_call 21; refine (KR.out).mono ?_; rintro e w' ⟨rfl, n, rfl⟩))
  go_ret
  exact ⟨ret_int' (by have := HZ.out; have := HS.out; omega), n, rfl⟩
theorem at_any (h : GapL w g S p) : Calls Try.prog 15 #[.pointer (some ⟨g, 0, none⟩)] w fun e w' => e = .returned (.int .i64 (p : Int)) ∧ w' = w := by
  have c1 := h.2.2.c1
  have KN := hide (none_c h.2.2)
  clear h
  go_enter Try.func15, Try.ntmps15
  go_wp2_with (go_at_call 38; refine (KN.out).mono ?_; rintro e w' ⟨rfl, rfl⟩)
  go_ret
  exact ⟨rfl, rfl⟩
/-- Whether bytes lie in a text, and which error says that they don't. -/
def inV (n : Nat) (a b : Int) : Bool := decide (0 ≤ a) && decide (a ≤ b) && decide (b ≤ n)
def ckV (n : Nat) (a b : Int) : Int := if inV n a b then 0 else 6
theorem check_any (h : GapL w g S p) (a b : Int) : Calls Try.prog 39 #[.pointer (some ⟨g, 0, none⟩), .int .i64 a, .int .i64 b] w fun e w' => e = .returned (.int .i64 (ckV S.size a b)) ∧ ∃ n, w' = w.drewN n := by
  have KL := hide (len_any h)
  have KN := hide (none_c h.2.2)
  have hv : ckV S.size a b = if (decide (0 ≤ a) && decide (a ≤ b) && decide (b ≤ (S.size : Int))) = true then 0 else 6 := rfl
  generalize ckV S.size a b = V at *
  have HV := hide hv
  generalize S.size = n at *
  clear h hv
  by_cases h1 : 0 ≤ a
  · by_cases h2 : a ≤ b
    · by_cases h3 : b ≤ (n : Int)
      all_goals
        go_enter Try.func39, Try.ntmps39
        go_wp2_with (first | (go_at_call 38; refine (KN.out).mono ?_; rintro e w' ⟨rfl, rfl⟩) | (go_at_call 20; refine (KL.out).mono ?_; rintro e w' ⟨rfl, m, rfl⟩))
        go_ret
        exact ⟨ret_int' (by rw [HV.out]; simp [*]), _, rfl⟩
    · go_enter Try.func39, Try.ntmps39
      go_wp2_with (first | (go_at_call 38; refine (KN.out).mono ?_; rintro e w' ⟨rfl, rfl⟩))
      go_ret
      exact ⟨ret_int' (by rw [HV.out, if_neg (by simp; omega)]), 0, rfl⟩
  · go_enter Try.func39, Try.ntmps39
    go_wp2_with (first | (go_at_call 38; refine (KN.out).mono ?_; rintro e w' ⟨rfl, rfl⟩))
    go_ret
    exact ⟨ret_int' (by rw [HV.out, if_neg (by simp; omega)]), 0, rfl⟩
theorem str_of (w : World) (ad : Option Addr) (cap : Nat) (bs : List Nat) (h : Sl w ad bs) (hb : ∀ x ∈ bs, x < 256) : (convert 22 9 (.slice ad bs.length cap)).run Try.prog w = .ok (.string (ofB bs)) w := by
  rcases h with rfl | ⟨b, off, rfl, hl, hs⟩
  · show (convert 22 9 (.slice ad 0 cap)).run Try.prog w = _
    rw [run_convert_bytes_string w 22 9 5 ad 0 cap Try.underlying22 Try.underlying5 Try.underlying9]
    cases ad with
    | none => simp [Conv.bytesToString, ofB]; rfl
    | some a => simp [Conv.bytesToString, ofB, loadCells, loadCellsFrom, Sem.run_bind]; rfl
  · have k := run_convert_bytes_back (P := Try.prog) w 22 9 5 ⟨b, off, none⟩ cap (bs.map Nat.toUInt8) Try.underlying22 Try.underlying5 Try.underlying9 (fun j hj => by
      rw [List.length_map] at hj
      have hx : bs[j]? = some bs[j] := List.getElem?_eq_getElem hj
      rw [Addr.add_mid, (hs j _ hx).1]
      have := (hs j _ hx).2
      simp [Nat.toUInt8, UInt8.toNat_ofNat']
      omega)
    rw [List.length_map] at k
    exact k
theorem text_any (h : GapL w g S p) : Calls Try.prog 19 #[.pointer (some ⟨g, 0, none⟩)] w fun e w' => e = .returned (.string S) ∧ ∃ n, w' = w.drewN n := by
  have c1 := h.2.2.c1
  have c2 := h.2.2.c2
  have hp := h.1
  have hs := h.2.1
  have KN := hide (none_c h.2.2)
  obtain ⟨to, hto⟩ : ∃ to, to = p + (252 - S.size) := ⟨_, rfl⟩
  have hg := h.2.2
  rw [← hto] at c2 hg
  have hdl := h.dlen
  have hdt := h.dlt
  have s1 := fun W => gp_to g p (by omega) W
  have s2 := fun W => gp_from g to (by omega) W
  have eT : ofB ((gD (tx S) p).take p) ++ ofB ((gD (tx S) p).drop to) = S := by
    apply tx_inj
    rw [tx_app, tx_of (fun x hx => hdt x (List.mem_of_mem_take hx)), tx_of (fun x hx => hdt x (List.mem_of_mem_drop hx)), hto, ← tx_len S]
    exact gD_text _ _ (by rw [tx_len]; exact hp) (by rw [tx_len]; exact hs)
  have k1 : ∀ n, (convert 22 9 (.slice (some ⟨g, 3, none⟩) p 252)).run Try.prog (w.drewN n) = .ok (.string (ofB ((gD (tx S) p).take p))) (w.drewN n) := fun n => by
    have k := str_of (w.drewN n) (some ⟨g, 3, none⟩) 252 ((gD (tx S) p).take p) (GapC.sl (w := w.drewN n) (hg.below (below_drewN (Below.refl _ w) n) hg.lt) hdt 0 p) (fun x hx => hdt x (List.mem_of_mem_take hx))
    rwa [List.length_take, hdl, Nat.min_eq_left (by omega)] at k
  have k2 : ∀ n, (convert 22 9 (.slice (some ⟨g, if 252 = to then 3 else 3 + to, none⟩) (252 - to) (252 - to))).run Try.prog (w.drewN n) = .ok (.string (ofB ((gD (tx S) p).drop to))) (w.drewN n) := fun n => by
    have hsl : Sl (w.drewN n) (some ⟨g, if 252 = to then 3 else 3 + to, none⟩) ((gD (tx S) p).drop to) := by
      by_cases e : 252 = to
      · refine .inl ?_
        rw [List.drop_eq_nil_iff]
        omega
      · rw [if_neg e]
        have k := GapC.sl (w := w.drewN n) (hg.below (below_drewN (Below.refl _ w) n) hg.lt) hdt to 252
        rwa [List.take_of_length_le (by rw [List.length_drop]; omega)] at k
    have k := str_of (w.drewN n) _ (252 - to) _ hsl (fun x hx => hdt x (List.mem_of_mem_drop hx))
    rwa [List.length_drop, hdl] at k
  generalize ofB ((gD (tx S) p).take p) = A at *
  generalize ofB ((gD (tx S) p).drop to) = C at *
  generalize (if 252 = to then 3 else 3 + to) = q at *
  have hsz : A.size + C.size ≤ 252 := by rw [← ByteArray.size_append, eT]; exact hs
  have ET := hide eT
  clear hg hdl hdt hto h eT
  go_enter Try.func19, Try.ntmps19
  go_wp2_with (go_at_call 38; refine (KN.out).mono ?_; rintro e w' ⟨rfl, rfl⟩)
  go_quiet (fail)
  go_wp2_with (fail)
  go_ret
  exact ⟨by rw [ET.out]; rfl, nq, rfl⟩
theorem room_b (h : GapL w g S p) : Calls Try.prog 21 #[.pointer (some ⟨g, 0, none⟩)] w fun e w' => e = .returned (.int .i64 ((252 - S.size : Nat) : Int)) ∧ Below w.heap.size w w' :=
  (room_any h).mono fun e w' ⟨h1, n, h2⟩ => ⟨h1, by rw [h2]; exact below_drewN (Below.refl _ _) n⟩
theorem len_b (h : GapL w g S p) : Calls Try.prog 20 #[.pointer (some ⟨g, 0, none⟩)] w fun e w' => e = .returned (.int .i64 (S.size : Int)) ∧ Below w.heap.size w w' :=
  (len_any h).mono fun e w' ⟨h1, n, h2⟩ => ⟨h1, by rw [h2]; exact below_drewN (Below.refl _ _) n⟩
theorem text_b (h : GapL w g S p) : Calls Try.prog 19 #[.pointer (some ⟨g, 0, none⟩)] w fun e w' => e = .returned (.string S) ∧ Below w.heap.size w w' :=
  (text_any h).mono fun e w' ⟨h1, n, h2⟩ => ⟨h1, by rw [h2]; exact below_drewN (Below.refl _ _) n⟩
theorem check_b (h : GapL w g S p) (a b : Int) : Calls Try.prog 39 #[.pointer (some ⟨g, 0, none⟩), .int .i64 a, .int .i64 b] w fun e w' => e = .returned (.int .i64 (ckV S.size a b)) ∧ Below w.heap.size w w' :=
  (check_any h a b).mono fun e w' ⟨h1, n, h2⟩ => ⟨h1, by rw [h2]; exact below_drewN (Below.refl _ _) n⟩
end
end Go.Proofs.Ytheefdplbmneeaa
