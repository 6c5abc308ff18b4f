/- What Within and places answer: places of a text, rising. -/
import Derived.Test.YtehekcfliloodabTSu
import Derived.Laws.AppendOwnNone
namespace Go.Proofs.Ytehekcfliloodab
open Go.RowKit
set_option linter.unusedVariables false

/-- What a row of numbers holds. -/
def SlI (W : World) (a : Option Addr) (zs : List Int) : Prop := zs = [] ∨ ∃ b off, a = some ⟨b, off, none⟩ ∧ b < W.heap.size ∧ ∀ (i : Nat) (z : Int), zs[i]? = some z → W.cell? ⟨b, off + i, none⟩ = some (.int .i64 z)
theorem SlI.below {W W' : World} {a : Option Addr} {zs : List Int} (h : SlI W a zs) (hB : Below W.heap.size W W') : SlI W' a zs := by
  rcases h with h | ⟨b, off, ha, hb, hc⟩
  · exact .inl h
  · exact .inr ⟨b, off, ha, Nat.lt_of_lt_of_le hb hB.size, fun i x hx => cell_below (hc i x hx) hB hb⟩

theorem within_any (v n : Int) (w : World) (hn : 1 ≤ n) (hn2 : n ≤ 4611686018427387904) (hv : -9223372036854775808 ≤ v ∧ v ≤ 9223372036854775807) :
    Calls Try.prog 12 #[.int .i64 v, .int .i64 n] w fun e w' => (∃ r : Nat, (r : Int) < n ∧ e = .returned (.int .i64 r)) ∧ w' = w := by
  have hlt : v.tmod n < n := Int.tmod_lt_of_pos _ (by omega)
  have hgt : -n < v.tmod n := by
    have := Int.lt_tmod_of_pos v (b := n) (by omega)
    omega
  have hw : IntKind.i64.wrap (v.tmod n) = v.tmod n := by rw [IntKind.wrap_i64]; omega
  have hn0 : (n == 0) = false := by simp; omega
  obtain ⟨m, hm⟩ : ∃ m, v.tmod n = m := ⟨_, rfl⟩
  rw [hm] at hlt hgt hw
  by_cases h0 : m < 0
  · have hw2 : IntKind.i64.wrap (m + n) = m + n := by rw [IntKind.wrap_i64]; omega
    go_enter Try.func12, Try.ntmps12
    go_wp2
    go_ret
    exact ⟨⟨(m + n).toNat, by omega, by show Ending.returned (.int .i64 (m + n)) = _; rw [Int.toNat_of_nonneg (by omega)]⟩, rfl⟩
  · have h0 : 0 ≤ m := by omega
    go_enter Try.func12, Try.ntmps12
    go_wp2
    go_ret
    exact ⟨⟨m.toNat, by omega, by show Ending.returned (.int .i64 m) = _; rw [Int.toNat_of_nonneg (by omega)]⟩, rfl⟩

/-- Places that rise, from one on, within a text of so many bytes. -/
def Rise (n : Nat) : Nat → List Nat → Prop
  | _, [] => True
  | f, p :: ps => f ≤ p ∧ p ≤ n ∧ Rise n p ps
theorem Rise.snoc {n : Nat} : ∀ {f : Nat} {ps : List Nat} {p : Nat}, Rise n f ps → (ps.getLastD f) ≤ p → p ≤ n → Rise n f (ps ++ [p]) := by
  intro f ps
  induction ps generalizing f with
  | nil => intro p _ h1 h2; exact ⟨h1, h2, trivial⟩
  | cons q qs ih =>
    intro p h h1 h2
    refine ⟨h.1, h.2.1, ih h.2.2 ?_ h2⟩
    cases qs with
    | nil => exact h1
    | cons r rs => exact h1
def I64 (z : Int) : Value := .int .i64 z
theorem Try.info64 : (Try.prog.info? 3).map (fun i => (i.zero, i.size, i.bytes)) = some (some (.int .i64 0), 1, 8) := by kernel_rfl

set_option maxHeartbeats 1000000 in
theorem places_any (s : ByteArray) (a : Option Addr) (cap : Nat) (zs : List Int) (w : World) (hz : SlI w a zs) (hb : ∀ z ∈ zs, -9223372036854775808 ≤ z ∧ z ≤ 9223372036854775807) (hs : s.size ≤ 1048576) (hl : zs.length ≤ 1048576) :
    Calls Try.prog 5 #[.string s, .slice a zs.length cap] w fun e w' => ∃ (v : Value) (ps : List Nat), e = .returned v ∧ ps.length = zs.length ∧ Rise s.size 0 ps ∧ w'.ownsRow w.heap.size 3 1 v ps.length (ps.map (fun (p : Nat) => I64 p)) ∧ Below w.heap.size w w' := by
  obtain ⟨i0, hi, hz0, hz1, hz2⟩ := info_parts Try.info64
  have HZ := hide hz
  have HBD := hide hb
  clear hz hb
  go_enter Try.func5, Try.ntmps5
  go_wp2_with (fail)
  go_loopw [5, 6, 7] (fun v f i wr => ∃ (k fr : Nat) (ps : List Nat), i = .int .i64 k ∧ f = .int .i64 fr ∧ k ≤ zs.length ∧ ps.length = k ∧ ps.getLastD 0 = fr ∧ fr ≤ s.size ∧ Rise s.size 0 ps ∧ wr.ownsRow w.heap.size 3 1 v ps.length (ps.map (fun (p : Nat) => I64 p)) ∧ Below w.heap.size w wr) (fun _ _ i _ => zs.length - (intOf i).toNat)
  case atStart => exact ⟨0, 0, [], rfl, rfl, by omega, rfl, rfl, by omega, trivial, World.ownsRow_nil _ _ _ _, Below.refl _ _⟩
  case round =>
    obtain ⟨k, fr, ps, rfl, rfl, hk, hpl, hlast, hfr, hrise, hown, hB⟩ := hrel
    by_cases hlt : k < zs.length
    · obtain ⟨z, hz⟩ : ∃ z, zs[k]? = some z := ⟨_, List.getElem?_eq_getElem hlt⟩
      have hzb := HBD.out z (List.mem_of_getElem? hz)
      obtain ⟨b0, off, rfl, hb0, hcl⟩ : ∃ b off, a = some ⟨b, off, none⟩ ∧ b < wr.heap.size ∧ ∀ (i : Nat) (z : Int), zs[i]? = some z → wr.cell? ⟨b, off + i, none⟩ = some (.int .i64 z) := by
        rcases HZ.out.below hB with h | h
        · rw [h] at hlt; simp at hlt
        · exact h
      have c0 := hcl k z hz
      have hlt' : (k : Int) < (zs.length : Int) := by omega
      have i1 : (fr : Int) ≤ (s.size : Int) := by omega
      have i2 : (s.size : Int) ≤ 1048576 := by omega
      obtain ⟨n, hn⟩ : ∃ n : Int, n = (s.size : Int) - (fr : Int) + 1 := ⟨_, rfl⟩
      have hw1 : IntKind.i64.wrap ((s.size : Int) - (fr : Int)) = (s.size : Int) - (fr : Int) := by rw [IntKind.wrap_i64]; omega
      have hw2 : IntKind.i64.wrap ((s.size : Int) - (fr : Int) + 1) = n := by rw [IntKind.wrap_i64]; omega
      have KW := hide (fun w => within_any z n w (by omega) (by omega) hzb)
      have HN := hide hn
      have HO := hide hown
      have HB := hide hB
      have HR := hide hrise
      have HL := hide hlast
      have HP := hide hpl
      have hsw := hB.size
      have hpl2 : ps.length ≤ 1048576 := by omega
      clear hcl hz hn hown hB hrise hlast hpl
      go_wp2_with (first | (go_at_call 12; refine (KW.out _).mono ?_; rintro e w1 ⟨⟨r, hr, rfl⟩, rfl⟩; have hn' := HN.out; have hrs : fr + r ≤ s.size := (by omega); clear hn') | (at_builtin; refine wpList_append_own _ rfl _ _ 22 rfl w.heap.size 3 i0 (.int .i64 0) 1 8 Try.underlying22 hi hz0 hz1 hz2 rfl (by omega) _ _ _ rfl (HO.out.alloc _) ⟨_, 0, none⟩ 1 1 [.int .i64 ((fr : Int) + (r : Int))] rfl rfl (cell_one_new _ _ _) (by simp [Value.oneCell']) (by unfold maxLen; omega) (by omega) (by simp; omega) ?_; intro v1 w2 ho2 hg2 _))
      have hBa := HB.out.alloc HB.out.size (.cells #[.int .i64 ((fr : Int) + (r : Int))] 3)
      go_roundw
      case rel =>
        refine ⟨k + 1, fr + r, ps ++ [fr + r], by go_num, by go_num, by omega, by rw [List.length_append, HP.out]; rfl, by simp, hrs, Rise.snoc HR.out (by rw [HL.out]; omega) hrs, ?_, hBa.grown hg2 hBa.size (fun j e => (HO.out.lt j e).1)⟩
        rw [List.length_append, List.map_append]
        exact ho2
      case measure => simp [intOf]; omega
    · have hge : (zs.length : Int) ≤ (k : Int) := by omega
      have HO := hide hown
      have HB := hide hB
      have HR := hide hrise
      have HP := hide hpl
      clear hown hB hrise hlast hpl
      go_wp2_with (fail)
      go_ret
      exact ⟨_, ps, rfl, by rw [HP.out]; omega, HR.out, HO.out, HB.out⟩
end Go.Proofs.Ytehekcfliloodab
