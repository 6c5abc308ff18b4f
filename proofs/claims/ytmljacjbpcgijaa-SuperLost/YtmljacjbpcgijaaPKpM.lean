/- Lists of ints that are handed in: good, CopyInts, mayKeep, Crash. -/
import Derived.Test.YtmljacjbpcgijaaRowsHM
import Derived.Test.YtmljacjbpcgijaaHelp
import Derived.Test.YtmljacjbpcgijaaPFrm
import Derived.Test.YtmljacjbpcgijaaPFnGM
import Derived.Test.YtmljacjbpcgijaaPDrp
import Derived.Test.YtmljacjbpcgijaaBase
import Derived.Test.YtmljacjbpcgijaaEq
import Derived.ProofKit
import Derived.ChangeOld
import Derived.SizedLaws
import Derived.JoinedCond
import Derived.Deep.Slices
import Derived.Test.YtmljacjbpcgijaaPNew
namespace Go.Proofs.Ytmljacjbpcgijaa
open Go.RowKit
set_option linter.unusedVariables false

theorem flat_at {rs : List (List Nat)} {i : Nat} {r : List Nat} (h : rs[i]? = some r) : (rs.take i).flatten.length + r.length ≤ rs.flatten.length := by
  have e := List.take_append_drop (i + 1) rs
  have l := congrArg (fun l => l.flatten.length) e
  simp only [List.flatten_append, List.length_append, List.take_add_one, h, Option.toList_some, List.flatten_cons, List.flatten_nil, List.append_nil] at l
  omega
theorem flat_next {rs : List (List Nat)} {i : Nat} {r : List Nat} (h : rs[i]? = some r) : (rs.take (i + 1)).flatten = (rs.take i).flatten ++ r := by
  simp [List.take_add_one, h]

set_option maxHeartbeats 1000000 in
theorem join_any (a : Option Addr) (cap : Nat) (rs : List (List Nat)) (w : World) (hg : SlR w a rs) (hn : rs.length ≤ 1000000000000) (hl : rs.flatten.length ≤ 140737488355328) :
    Calls Try.prog 50 #[.slice a rs.length cap] w fun e w' => ∃ v, e = .returned v ∧ w'.ownsRow w.heap.size 5 1 v rs.flatten.length (rs.flatten.map B8) ∧ Below w.heap.size w w' := by
  obtain ⟨i0, hi, hz0, hz1, hz2⟩ := info_parts Try.info5
  go_enter Try.func50, Try.ntmps50
  go_wp2
  go_loopw [3, 4] (fun v i wr => ∃ (k : Nat), k ≤ rs.length ∧ i = .int .i64 k ∧ wr.ownsRow w.heap.size 5 1 v (rs.take k).flatten.length ((rs.take k).flatten.map B8) ∧ Below w.heap.size w wr)
    (fun _ i _ => rs.length - (intOf i).toNat)
  case atStart => exact ⟨0, by omega, rfl, World.ownsRow_nil _ _ _ _, Below.refl _ _⟩
  case round =>
    obtain ⟨k, hk, rfl, hown, hB⟩ := hrel
    have HO := hide hown
    have HB := hide hB
    clear hown hB
    by_cases hlt : k < rs.length
    · obtain ⟨r, hrk⟩ : ∃ r, rs[k]? = some r := ⟨_, List.getElem?_eq_getElem hlt⟩
      obtain ⟨b, off, rfl, hbl, hseg⟩ : ∃ b off, a = some ⟨b, off, none⟩ ∧ b < w.heap.size ∧ ∀ (i : Nat) (r : List Nat), rs[i]? = some r → ∃ ai cap, w.cell? ⟨b, off + i, none⟩ = some (.slice ai r.length cap) ∧ Sl w ai r ∧ r.length ≤ maxLen := by
        rcases hg with rfl | h
        · simp at hlt
        · exact h
      obtain ⟨ai, ci, hc0, hsl, hm⟩ := hseg k r hrk
      have hfl := flat_at hrk
      have HF : Hid ((rs.take k).flatten.length + r.length ≤ 140737488355328) := Nat.le_trans hfl hl
      have hrl : r.length ≤ 140737488355328 := by omega
      have HX := hide hrk
      have HS := hide hsl
      have HC := hide hc0
      have HG := hide hg
      clear hrk hc0 hsl hm hseg hg hfl
      have hki : (k : Int) < (rs.length : Int) := by omega
      go_wp2
      generalize hPe : (rs.take k).flatten = P at HO HF
      have HP := hide hPe
      clear hPe
      go_loopw [3, 5] (fun v i wq => ∃ (j : Nat), j ≤ r.length ∧ i = .int .i64 j ∧ wq.ownsRow w.heap.size 5 1 v (P ++ r.take j).length ((P ++ r.take j).map B8) ∧ Below w.heap.size w wq)
        (fun _ i _ => r.length - (intOf i).toNat)
      case atStart => exact ⟨0, by omega, rfl, by simpa using HO.out, HB.out⟩
      case round =>
        obtain ⟨j, hj, rfl, hown, hB⟩ := hrel
        have HO2 := hide hown
        have HB2 := hide hB
        have hsz := hB.size
        have hc : wr.cell? ⟨b, off + k, none⟩ = some (.slice ai r.length ci) := (hB.cell (p := ⟨b, off + k, none⟩) hbl).trans HC.out
        clear hown hB
        by_cases hjl : j < r.length
        · obtain ⟨x, hx⟩ : ∃ x, r[j]? = some x := ⟨_, List.getElem?_eq_getElem hjl⟩
          obtain ⟨b2, o2, rfl, hb2, hs2⟩ : ∃ b off, ai = some ⟨b, off, none⟩ ∧ b < w.heap.size ∧ Seg w b off r := by
            rcases HS.out with rfl | h
            · simp at hjl
            · exact h
          have hcx : wr.cell? ⟨b2, o2 + j, none⟩ = some (.int .u8 (x : Int)) := (HB2.out.cell (p := ⟨b2, o2 + j, none⟩) hb2).trans (hs2 j x hx).1
          have hji : (j : Int) < (r.length : Int) := by omega
          have HXX := hide hx
          clear hx hs2
          have HPL : Hid ((P ++ r.take j).length + 1 ≤ 140737488355328) := show _ ≤ _ by have := HF.out; simp; omega
          go_wp2_with (at_builtin; refine wpList_append_own _ rfl _ _ 22 rfl w.heap.size 5 i0 (.int .u8 0) 1 1 Try.underlying22 hi hz0 hz1 hz2 rfl (by omega) _ _ _ rfl (HO2.out.alloc _) ⟨wr.heap.size, 0, none⟩ 1 1 [.int .u8 (x : Int)] rfl rfl (cell_one_new _ _ _) (by simp [Value.oneCell']) (by have := HPL.out; unfold maxLen; omega) (by have := HPL.out; omega) (by simp; omega) ?_; intro v3 w3 hown3 hgrow3 _)
          have HO3 := hide hown3
          have HB3 : Hid (Below w.heap.size w w3) := (HB2.out.alloc (by omega) _).grown hgrow3 (by simp; omega) (fun j e => (HO2.out.lt j e).1)
          clear hown3 hgrow3
          go_wp2
          go_roundw
          case rel =>
            refine ⟨j + 1, by omega, by go_num, ?_, HB3.out⟩
            have h := HO3.out
            rw [List.take_add_one, HXX.out]
            simpa [B8, Nat.add_assoc] using h
          case measure => simp [intOf]; omega
        · have hjj : j = r.length := by omega
          have HJ := hide hjj
          have hji : (r.length : Int) ≤ (j : Int) := by omega
          clear hjj
          go_wp2
          go_roundw
          case rel =>
            refine ⟨k + 1, by omega, by go_num, ?_, HB2.out⟩
            have h := HO2.out
            rw [HJ.out, List.take_length] at h
            rw [flat_next HX.out, HP.out]
            exact h
          case measure => simp [intOf]; omega
    · have hkk : k = rs.length := by omega
      have HK := hide hkk
      have hki : (rs.length : Int) ≤ (k : Int) := by omega
      clear hg hkk
      go_wp2
      go_ret
      have h := HO.out
      rw [HK.out, List.take_length] at h
      exact ⟨_, rfl, h, HB.out⟩


end Go.Proofs.Ytmljacjbpcgijaa
namespace Go.Proofs.Ytmljacjbpcgijaa
open Go.RowKit
set_option linter.unusedVariables false

theorem ret_int' {k : IntKind} {a b : Int} (h : a = b) : Ending.returned (.int k a) = .returned (.int k b) := by rw [h]

/-- The number of so many bytes at a place, and the error's number. -/
def takeV (bs : List Nat) (p : Int) (n : Nat) : Nat × Int :=
  if p < 0 ∨ (bs.length : Int) - n < p then (0, 6) else (leV ((bs.drop p.toNat).take n), 0)
theorem takeV_lt (bs : List Nat) (p : Int) (n : Nat) (h : ∀ x ∈ bs, x < 256) : (takeV bs p n).1 < 256 ^ n := by
  unfold takeV
  split
  · exact Nat.pow_pos (by omega)
  · refine Nat.lt_of_lt_of_le (leV_lt _ fun x hx => h x (List.mem_of_mem_drop (List.mem_of_mem_take hx))) (Nat.pow_le_pow_right (by omega) (List.length_take_le _ _))
theorem leB_mod (n v : Nat) : leB n (v % 256 ^ n) = leB n v := by
  induction n generalizing v with
  | zero => rfl
  | succ n ih =>
    simp only [leB]
    have e1 : v % 256 ^ (n + 1) % 256 = v % 256 := Nat.mod_mod_of_dvd v ⟨256 ^ n, by rw [Nat.pow_succ, Nat.mul_comm]⟩
    have e2 : v % 256 ^ (n + 1) / 256 = v / 256 % 256 ^ n := by rw [Nat.pow_succ, Nat.mul_comm, Nat.mod_mul_right_div_self]
    rw [e1, e2, ih]

theorem take64_any (a : Option Addr) (cap : Nat) (bs : List Nat) (p : Int) (w : World) (hg : Sl w a bs) (hl : bs.length ≤ maxLen) :
    Calls Try.prog 63 #[.slice a bs.length cap, .int .i64 p] w fun e w' => e = .returned (.tuple #[.int .u64 (takeV bs p 8).1, .int .i64 (takeV bs p 8).2]) ∧ w' = w := by
  unfold takeV
  by_cases h1 : p < 0
  · rw [if_pos (.inl h1)]; exact take64_low a bs.length cap w p h1
  · by_cases h2 : (bs.length : Int) - 8 < p
    · rw [if_pos (.inr h2)]; exact take64_high a bs.length cap w p hl (by omega) h2
    · rw [if_neg (by intro h; rcases h with h | h; exact h1 h; exact h2 h)]
      obtain ⟨q, rfl⟩ := Int.eq_ofNat_of_zero_le (show 0 ≤ p by omega)
      exact take64_good a cap q bs w hg hl (by omega)

end Go.Proofs.Ytmljacjbpcgijaa
namespace Go.Proofs.Ytmljacjbpcgijaa
open Go.RowKit
set_option linter.unusedVariables false

theorem shr_byte (v k : Nat) : (v : Int) / 2 ^ (8 * k) % 256 = ((v / 256 ^ k % 256 : Nat) : Int) := by
  have e : (2 : Int) ^ (8 * k) = ((256 ^ k : Nat) : Int) := by rw [Int.pow_mul, Int.natCast_pow]; rfl
  rw [e, ← Int.natCast_ediv]
  omega
theorem leB_take (n v k x : Nat) (h : k < n) (hx : x = v / 256 ^ k % 256) : (leB n v).take (k + 1) = (leB n v).take k ++ [x] := by
  rw [List.take_add_one, leB_get n v k h, hx]; rfl

set_option maxHeartbeats 400000 in
theorem little_any (v n : Nat) (w : World) (hv : v < 18446744073709551616) (hn : n ≤ 8) :
    Calls Try.prog 36 #[.int .u64 v, .int .i64 n] w fun e w' => ∃ u, e = .returned u ∧ w'.ownsRow w.heap.size 5 1 u n ((leB n v).map B8) ∧ Below w.heap.size w w' := by
  obtain ⟨i0, hi, hz0, hz1, hz2⟩ := info_parts Try.info5
  go_enter Try.func36, Try.ntmps36
  go_wp2
  go_loopw [5, 6] (fun u i wr => ∃ (k : Nat), k ≤ n ∧ i = .int .i64 k ∧ wr.ownsRow w.heap.size 5 1 u k (((leB n v).take k).map B8) ∧ Below w.heap.size w wr)
    (fun _ i _ => n - (intOf i).toNat)
  case atStart => exact ⟨0, by omega, rfl, World.ownsRow_nil _ _ _ _, Below.refl _ _⟩
  case round =>
    obtain ⟨k, hk, rfl, hown, hB⟩ := hrel
    have HO := hide hown
    have HB := hide hB
    have hsz := hB.size
    clear hown hB
    by_cases hlt : k < n
    · have hto : (8 * (k : Int)).toNat = 8 * k := by omega
      have hs := shr_byte v k
      generalize hxe : v / 256 ^ k % 256 = x at hs
      have HX := hide hxe
      clear hxe
      go_wp2_with (at_builtin; refine wpList_append_own _ rfl _ _ 22 rfl w.heap.size 5 i0 (.int .u8 0) 1 1 Try.underlying22 hi hz0 hz1 hz2 rfl (by omega) _ _ _ rfl (HO.out.alloc _) ⟨wr.heap.size, 0, none⟩ 1 1 [.int .u8 (x : Int)] rfl rfl (cell_one_new _ _ _) (by simp [Value.oneCell']) (by unfold maxLen; omega) (by omega) (by simp; omega) ?_; intro v3 w3 hown3 hgrow3 _)
      have HO3 := hide hown3
      have HB3 : Hid (Below w.heap.size w w3) := (HB.out.alloc (by omega) _).grown hgrow3 (by simp; omega) (fun j e => (HO.out.lt j e).1)
      clear hown3 hgrow3
      go_wp2
      go_roundw
      case rel =>
        refine ⟨k + 1, by omega, by go_num, ?_, HB3.out⟩
        rw [leB_take n v k x hlt HX.out.symm]
        simpa [B8] using HO3.out
      case measure => simp [intOf]; omega
    · have hkk : k = n := by omega
      subst hkk
      go_wp2
      go_ret
      have h := HO.out
      rw [List.take_of_length_le (by rw [leB_length]; omega)] at h
      exact ⟨_, rfl, h, HB.out⟩


theorem xor_half (a b : Nat) : (a ^^^ b) / 2 = a / 2 ^^^ b / 2 := Nat.xor_div_two
theorem xor_low (a b : Nat) : (a ^^^ b) % 2 = (a % 2 + b % 2) % 2 := by
  have e : (a ^^^ b) % 2 ^ 1 = a % 2 ^ 1 ^^^ b % 2 ^ 1 := Nat.xor_mod_two_pow
  rw [Nat.pow_one] at e
  rw [e]
  rcases Nat.mod_two_eq_zero_or_one a with h1 | h1 <;> rcases Nat.mod_two_eq_zero_or_one b with h2 | h2 <;> rw [h1, h2] <;> rfl
def refStep (r y : Nat) : Nat := if y % 2 = r % 2 then r / 2 else r / 2 ^^^ 2197175160
theorem refStep_eq (r y : Nat) : bitStep (r ^^^ y) = refStep r y ^^^ (y / 2) := by
  unfold bitStep refStep
  rw [xor_low, xor_half]
  by_cases h : y % 2 = r % 2
  · rw [if_neg (by omega), if_pos h]
  · rw [if_pos (by omega), if_neg h, Nat.xor_assoc, Nat.xor_comm (y / 2), ← Nat.xor_assoc]
theorem refStep_lt (r y : Nat) (h : r < 4294967296) : refStep r y < 4294967296 := by
  unfold refStep
  split
  · omega
  · exact xor_lt32 _ _ (by omega) (by omega)
theorem refSteps_next {z R x k : Nat} (h : bitSteps k z = R ^^^ x / 2 ^ k) : bitSteps (k + 1) z = refStep R (x / 2 ^ k) ^^^ x / 2 ^ (k + 1) := by
  show bitStep (bitSteps k z) = _
  rw [h, refStep_eq, Nat.pow_succ, Nat.div_div_eq_div_mul]
theorem refSteps_end {z R x : Nat} (hx : x < 256) (h : bitSteps 8 z = R ^^^ x / 2 ^ 8) : bitSteps 8 z = R := by
  rw [h, Nat.div_eq_of_lt (by omega), Nat.xor_zero]

theorem ref_inv (s : Nat) (h : s < 4294967296) : bits BinOp.xor IntKind.u64 (s : Int) 4294967295 = ((4294967295 ^^^ s : Nat) : Int) := by
  rw [Nat.xor_comm]; exact u64_xor_nat s 4294967295 (by omega) (by omega)
theorem ref_mix (r : Nat) (h : r < 4294967296) : bits BinOp.xor IntKind.u64 (r : Int) 2197175160 = ((r ^^^ 2197175160 : Nat) : Int) :=
  u64_xor_nat r 2197175160 (by omega) (by omega)
theorem ref_bit (x k : Nat) : (x : Int) / 2 ^ k = ((x / 2 ^ k : Nat) : Int) := by rw [Int.natCast_ediv, Int.natCast_pow]; rfl

set_option maxHeartbeats 400000 in
theorem refMore_any (s : Nat) (a : Option Addr) (cap : Nat) (bs : List Nat) (w : World) (hs : s < 4294967296) (hg : Sl w a bs) (hl : bs.length ≤ maxLen) :
    Calls Try.prog 51 #[.int .u32 s, .slice a bs.length cap] w fun e w' => e = .returned (.int .u32 (moreV s bs)) ∧ w' = w := by
  unfold maxLen at hl
  have hinv := ref_inv s hs
  have hi32 := xor_lt32 4294967295 s (by omega) hs
  go_enter Try.func51, Try.ntmps51
  go_wp2
  clear hinv
  go_loop [5, 6] (fun r i => ∃ k R : Nat, k ≤ bs.length ∧ R < 4294967296 ∧ i = .int .i64 k ∧ r = .int .u64 R ∧ R = runs (4294967295 ^^^ s) (bs.take k)) (fun _ i => bs.length - (intOf i).toNat)
  case atStart => exact ⟨0, 4294967295 ^^^ s, Nat.zero_le _, hi32, rfl, rfl, rfl⟩
  case round =>
    obtain ⟨k, R, hk, hR, rfl, rfl, hRk⟩ := hrel
    have HR : Hid (R = runs (4294967295 ^^^ s) (bs.take k)) := hRk
    clear hRk
    by_cases hlt : k < bs.length
    · obtain ⟨x, hx⟩ : ∃ x, bs[k]? = some x := ⟨_, List.getElem?_eq_getElem hlt⟩
      obtain ⟨b, off, rfl, _, hseg⟩ : ∃ b off, a = some ⟨b, off, none⟩ ∧ b < w.heap.size ∧ Seg w b off bs := by
        rcases hg with rfl | h
        · simp at hlt
        · exact h
      obtain ⟨hc, hx2⟩ := hseg k x hx
      have HX : Hid (bs[k]? = some x) := hx
      have hki : (k : Int) < (bs.length : Int) := by omega
      clear hx hg hseg
      go_wp2
      go_loop [5, 7] (fun r i => ∃ j Q : Nat, j ≤ 8 ∧ Q < 4294967296 ∧ i = .int .i64 j ∧ r = .int .u64 Q ∧ bitSteps j (R ^^^ x) = Q ^^^ x / 2 ^ j) (fun _ i => 8 - (intOf i).toNat)
      case atStart => exact ⟨0, R, by omega, hR, rfl, rfl, by simp [bitSteps]⟩
      case round =>
        obtain ⟨j, Q, hj, hQ, rfl, rfl, hQj⟩ := hrel
        have HQ := hide hQj
        clear hQj
        by_cases hj8 : j < 8
        · have hbit := ref_bit x j
          have hy : x / 2 ^ j < 256 := Nat.lt_of_le_of_lt (Nat.div_le_self _ _) hx2
          generalize hye : x / 2 ^ j = y at hbit hy
          have HY := hide hye
          clear hye
          by_cases hsame : y % 2 = Q % 2
          · have hq : (((y : Int) % 2) != ((Q : Int) % 2)) = false := by rw [bne_eq_false_iff_eq]; omega
            have HSM := hide hsame
            clear hsame
            go_wp2
            go_round
            case rel => exact ⟨j + 1, refStep Q y, by omega, refStep_lt _ _ hQ, by go_num, int_congr (by unfold refStep; rw [if_pos HSM.out]; omega), by rw [refSteps_next HQ.out, HY.out]⟩
            case measure => simp [intOf]; omega
          · have hq : (((y : Int) % 2) != ((Q : Int) % 2)) = true := by rw [bne_iff_ne]; omega
            have hmx := ref_mix (Q / 2) (by omega)
            have HSM := hide hsame
            clear hsame
            go_wp2
            go_round
            case rel => exact ⟨j + 1, refStep Q y, by omega, refStep_lt _ _ hQ, by go_num, int_congr (by unfold refStep; rw [if_neg HSM.out]; first | exact hmx | simp), by rw [refSteps_next HQ.out, HY.out]⟩
            case measure => simp [intOf]; omega
        · go_wp2
          go_round
          case rel =>
            have e8 : j = 8 := by omega
            subst e8
            refine ⟨k + 1, Q, by omega, hQ, by go_num, rfl, ?_⟩
            rw [List.take_add_one, HX.out]
            simp only [Option.toList_some]
            rw [runs_snoc, ← HR.out]
            exact (refSteps_end hx2 HQ.out).symm
          case measure => simp [intOf]; omega
    · have hfin : k = bs.length := by omega
      have HF : Hid (k = bs.length) := hfin
      clear hfin
      have hinv2 := ref_inv R hR
      have h32 := xor_lt32 4294967295 R (by omega) hR
      generalize hze : 4294967295 ^^^ R = z at hinv2 h32
      have HZ := hide hze
      clear hze
      go_wp2
      go_ret
      refine ⟨ret_int ?_, rfl⟩
      unfold moreV
      rw [← List.take_length (l := bs), ← HF.out, ← HR.out, HZ.out]

end Go.Proofs.Ytmljacjbpcgijaa
namespace Go.Proofs.Ytmljacjbpcgijaa
open Go.RowKit
set_option linter.unusedVariables false

theorem qownsRow_base {W : World} {base base' : Nat} {e : TypeId} {size : Nat} {v : Value} {k : Nat} {xs : List Value} (h : W.ownsRow base e size v k xs) (hb : base' ≤ base) : W.ownsRow base' e size v k xs := by
  refine ⟨h.1, ?_⟩
  rcases h.2 with h2 | ⟨g, cap, cur, hv, hg, r⟩
  · exact .inl h2
  · exact .inr ⟨g, cap, cur, hv, Nat.le_trans hb hg, r⟩
theorem qpair_slr (W : World) (a0 a1 : Option Addr) (c0 c1 : Nat) (x0 x1 : List Nat) (h0 : Sl W a0 x0) (h1 : Sl W a1 x1) (l0 : x0.length ≤ maxLen) (l1 : x1.length ≤ maxLen) :
    SlR (W.alloc (.cells #[.slice a0 x0.length c0, .slice a1 x1.length c1] 22)) (some ⟨W.heap.size, 0, none⟩) [x0, x1] := by
  have hB : Below W.heap.size W (W.alloc (.cells #[.slice a0 x0.length c0, .slice a1 x1.length c1] 22)) := (Below.refl _ _).alloc (Nat.le_refl _) _
  refine .inr ⟨_, _, rfl, by simp, fun i r hx => ?_⟩
  match i, hx with
  | 0, hx => simp at hx; subst hx; exact ⟨a0, c0, by simp, h0.below hB, l0⟩
  | 1, hx => simp at hx; subst hx; exact ⟨a1, c1, by simp, h1.below hB, l1⟩
  | n + 2, hx => simp at hx
theorem qtwo_any (a0 a1 : Option Addr) (c0 c1 : Nat) (x0 x1 : List Nat) (w : World) (h0 : Sl w a0 x0) (h1 : Sl w a1 x1) (hl : x0.length + x1.length ≤ 140737488355328) :
    Calls Try.prog 35 #[.slice a0 x0.length c0, .slice a1 x1.length c1] w fun e w' => ∃ u, e = .returned u ∧ w'.ownsRow w.heap.size 5 1 u (x0.length + x1.length) ((x0 ++ x1).map B8) ∧ Below w.heap.size w w' := by
  have hB : Below w.heap.size w (w.alloc (.cells #[.slice a0 x0.length c0, .slice a1 x1.length c1] 22)) := (Below.refl _ _).alloc (Nat.le_refl _) _
  have hj := join_any (some ⟨w.heap.size, 0, none⟩) 2 [x0, x1] _ (qpair_slr w a0 a1 c0 c1 x0 x1 h0 h1 (by unfold maxLen; omega) (by unfold maxLen; omega)) (by simp) (by simpa using hl)
  rw [show [x0, x1].flatten = x0 ++ x1 by simp, show [x0, x1].length = 2 from rfl] at hj
  have HJ := hide hj
  have HB := hide hB
  clear hj hB h0 h1
  go_enter Try.func35, Try.ntmps35
  go_wp2_with (go_at_call 50; refine (unhide HJ).mono ?_; rintro e w' ⟨u, rfl, hO, hB2⟩)
  go_ret
  exact ⟨u, rfl, by simpa using qownsRow_base (base' := w.heap.size) hO (by simp), bseq HB.out hB2⟩
theorem qlittle_sl (v : Nat) (w : World) (hv : v < 18446744073709551616) :
    Calls Try.prog 36 #[.int .u64 v, .int .i64 8] w fun e w' => ∃ a c, e = .returned (.slice a 8 c) ∧ Sl w' a (leB 8 v) ∧ Below w.heap.size w w' := by
  refine (little_any v 8 w hv (by omega)).mono ?_
  rintro e w' ⟨u, rfl, ho, hb⟩
  obtain ⟨a, c, h1, h2⟩ := sl_of_owns (bs := leB 8 v) (by rw [leB_length]; exact ho) (leB_lt 8 v)
  rw [leB_length] at h1
  exact ⟨a, c, by rw [h1], h2, hb⟩
theorem qtwo_sl (a0 a1 : Option Addr) (c0 c1 n m : Nat) (x0 x1 : List Nat) (w : World) (h0 : Sl w a0 x0) (h1 : Sl w a1 x1) (hn : x0.length = n) (hm : x1.length = m) (hl : n + m ≤ 1000) :
    Calls Try.prog 35 #[.slice a0 n c0, .slice a1 m c1] w fun e w' => ∃ a c, e = .returned (.slice a (n + m) c) ∧ Sl w' a (x0 ++ x1) ∧ Below w.heap.size w w' := by
  subst hn
  subst hm
  refine (qtwo_any a0 a1 c0 c1 x0 x1 w h0 h1 (by omega)).mono ?_
  rintro e w' ⟨u, rfl, ho, hb⟩
  obtain ⟨a, c, e1, e2⟩ := sl_of_owns (bs := x0 ++ x1) (by rw [List.length_append]; exact ho) (fun x hx => (List.mem_append.1 hx).elim (h0.lt x) (h1.lt x))
  rw [List.length_append] at e1
  exact ⟨a, c, by rw [e1], e2, hb⟩
end Go.Proofs.Ytmljacjbpcgijaa
namespace Go.Proofs.Ytmljacjbpcgijaa
open Go.RowKit Go.Shelf
set_option linter.unusedVariables false

theorem nm_0 (w : World) : (Instr.index 9 (.string ⟨#[86, 69, 76, 76, 85, 77, 48, 49]⟩) (.int .i64 0)).run Try.prog w = .ok (.int .u8 86) w := by kernel_rfl
theorem nm_1 (w : World) : (Instr.index 9 (.string ⟨#[86, 69, 76, 76, 85, 77, 48, 49]⟩) (.int .i64 1)).run Try.prog w = .ok (.int .u8 69) w := by kernel_rfl
theorem nm_2 (w : World) : (Instr.index 9 (.string ⟨#[86, 69, 76, 76, 85, 77, 48, 49]⟩) (.int .i64 2)).run Try.prog w = .ok (.int .u8 76) w := by kernel_rfl
theorem nm_3 (w : World) : (Instr.index 9 (.string ⟨#[86, 69, 76, 76, 85, 77, 48, 49]⟩) (.int .i64 3)).run Try.prog w = .ok (.int .u8 76) w := by kernel_rfl
theorem nm_4 (w : World) : (Instr.index 9 (.string ⟨#[86, 69, 76, 76, 85, 77, 48, 49]⟩) (.int .i64 4)).run Try.prog w = .ok (.int .u8 85) w := by kernel_rfl
theorem nm_5 (w : World) : (Instr.index 9 (.string ⟨#[86, 69, 76, 76, 85, 77, 48, 49]⟩) (.int .i64 5)).run Try.prog w = .ok (.int .u8 77) w := by kernel_rfl
theorem nm_6 (w : World) : (Instr.index 9 (.string ⟨#[86, 69, 76, 76, 85, 77, 48, 49]⟩) (.int .i64 6)).run Try.prog w = .ok (.int .u8 48) w := by kernel_rfl
theorem nm_7 (w : World) : (Instr.index 9 (.string ⟨#[86, 69, 76, 76, 85, 77, 48, 49]⟩) (.int .i64 7)).run Try.prog w = .ok (.int .u8 49) w := by kernel_rfl
theorem nm_at (k v : Nat) (hk : sbName[k]? = some v) (w : World) : (Instr.index 9 (.string ⟨#[86, 69, 76, 76, 85, 77, 48, 49]⟩) (.int .i64 (k : Int))).run Try.prog w = .ok (.int .u8 (v : Int)) w := by
  have h8 : k < 8 := (List.getElem?_eq_some_iff.1 hk).1
  obtain rfl | rfl | rfl | rfl | rfl | rfl | rfl | rfl : k = 0 ∨ k = 1 ∨ k = 2 ∨ k = 3 ∨ k = 4 ∨ k = 5 ∨ k = 6 ∨ k = 7 := by omega
  · simp [sbName] at hk
    subst hk
    exact nm_0 w
  · simp [sbName] at hk
    subst hk
    exact nm_1 w
  · simp [sbName] at hk
    subst hk
    exact nm_2 w
  · simp [sbName] at hk
    subst hk
    exact nm_3 w
  · simp [sbName] at hk
    subst hk
    exact nm_4 w
  · simp [sbName] at hk
    subst hk
    exact nm_5 w
  · simp [sbName] at hk
    subst hk
    exact nm_6 w
  · simp [sbName] at hk
    subst hk
    exact nm_7 w
theorem sb_cap (v : Nat) (hv : v ∈ sbName) : v < 256 := by
  revert hv
  unfold sbName
  simp
  omega
set_option maxHeartbeats 400000 in
theorem text_any (w : World) : Calls Try.prog 34 #[.string ⟨#[86, 69, 76, 76, 85, 77, 48, 49]⟩] w fun e w' => ∃ u, e = .returned u ∧ w'.ownsRow w.heap.size 5 1 u 8 (sbName.map B8) ∧ Below w.heap.size w w' := by
  obtain ⟨i0, hi, hz0, hz1, hz2⟩ := info_parts Try.info5
  have l8 : sbName.length = 8 := rfl
  have L8 := hide l8
  clear l8
  go_enter Try.func34, Try.ntmps34
  go_wp2
  go_loopw [3, 4] (fun u i wr => ∃ (k : Nat), k ≤ 8 ∧ i = .int .i64 k ∧ wr.ownsRow w.heap.size 5 1 u k ((sbName.take k).map B8) ∧ Below w.heap.size w wr)
    (fun _ i _ => 8 - (intOf i).toNat)
  case atStart => exact ⟨0, by omega, rfl, World.ownsRow_nil _ _ _ _, Below.refl _ _⟩
  case round =>
    obtain ⟨k, hk, rfl, hown, hB⟩ := hrel
    have HO := hide hown
    have HB := hide hB
    have hsz := hB.size
    clear hown hB
    by_cases hlt : k < 8
    · have kI : (k : Int) < 8 := by omega
      obtain ⟨x, hx⟩ : ∃ x, sbName[k]? = some x := ⟨_, List.getElem?_eq_getElem (by rw [L8.out]; exact hlt)⟩
      have ix := fun W => nm_at k x hx W
      have HX := hide hx
      clear hx
      go_wp2_with (at_builtin; refine wpList_append_own _ rfl _ _ 22 rfl w.heap.size 5 i0 (.int .u8 0) 1 1 Try.underlying22 hi hz0 hz1 hz2 rfl (by omega) _ _ _ rfl (HO.out.alloc _) ⟨wr.heap.size, 0, none⟩ 1 1 [.int .u8 (x : Int)] rfl rfl (cell_one_new _ _ _) (by simp [Value.oneCell']) (by unfold maxLen; omega) (by omega) (by simp; omega) ?_; intro v3 w3 hown3 hgrow3 _)
      have HO3 := hide hown3
      have HB3 : Hid (Below w.heap.size w w3) := (HB.out.alloc (by omega) _).grown hgrow3 (by simp; omega) (fun j e => (HO.out.lt j e).1)
      clear hown3 hgrow3
      go_wp2
      go_roundw
      case rel =>
        refine ⟨k + 1, by omega, by go_num, ?_, HB3.out⟩
        rw [List.take_add_one, HX.out]
        simpa [B8] using HO3.out
      case measure => simp [intOf]; omega
    · have hkk : k = 8 := by omega
      subst hkk
      go_wp2
      go_ret
      have h := HO.out
      rw [List.take_of_length_le (by rw [L8.out]; omega)] at h
      exact ⟨_, rfl, h, HB.out⟩
theorem rsum_any (a : Option Addr) (cap : Nat) (bs : List Nat) (w : World) (hg : Sl w a bs) (hl : bs.length ≤ maxLen) :
    Calls Try.prog 37 #[.slice a bs.length cap] w fun e w' => e = .returned (.int .u32 (moreV 0 bs)) ∧ w' = w := by
  have CE := hide (refMore_any 0 a cap bs w (by omega) hg hl)
  go_enter Try.func37, Try.ntmps37
  go_wp2_with (go_at_call 51; refine (unhide CE).mono ?_; rintro e w' ⟨rfl, hw'⟩; replace hw' := hw'.symm; subst hw')
  go_ret
  exact ⟨rfl, rfl⟩
/-- What Little and Two make, as slices. -/
theorem little_sl (v : Nat) (w : World) (hv : v < 18446744073709551616) :
    Calls Try.prog 36 #[.int .u64 v, .int .i64 8] w fun e w' => ∃ a c, e = .returned (.slice a 8 c) ∧ Sl w' a (leB 8 v) ∧ Below w.heap.size w w' := by
  refine (little_any v 8 w hv (by omega)).mono ?_
  rintro e w' ⟨u, rfl, ho, hb⟩
  obtain ⟨a, c, h1, h2⟩ := sl_of_owns (bs := leB 8 v) (by rw [leB_length]; exact ho) (leB_lt 8 v)
  rw [leB_length] at h1
  exact ⟨a, c, by rw [h1], h2, hb⟩
theorem two_sl (a0 a1 : Option Addr) (c0 c1 n m : Nat) (x0 x1 : List Nat) (w : World) (h0 : Sl w a0 x0) (h1 : Sl w a1 x1) (hn : x0.length = n) (hm : x1.length = m) (hl : n + m ≤ 1000) :
    Calls Try.prog 35 #[.slice a0 n c0, .slice a1 m c1] w fun e w' => ∃ a c, e = .returned (.slice a (n + m) c) ∧ Sl w' a (x0 ++ x1) ∧ Below w.heap.size w w' := by
  subst hn
  subst hm
  refine (qtwo_any a0 a1 c0 c1 x0 x1 w h0 h1 (by omega)).mono ?_
  rintro e w' ⟨u, rfl, ho, hb⟩
  obtain ⟨a, c, e1, e2⟩ := sl_of_owns (bs := x0 ++ x1) (by rw [List.length_append]; exact ho) (fun x hx => (List.mem_append.1 hx).elim (h0.lt x) (h1.lt x))
  rw [List.length_append] at e1
  exact ⟨a, c, by rw [e1], e2, hb⟩
theorem index_i (g i len cap : Nat) (hi : i < len) (w : World) : (Instr.indexAt 25 (.slice (some ⟨g, 0, none⟩) len cap) (.int .i64 (i : Int))).run Try.prog w = .ok (.pointer (some ⟨g, i, none⟩)) w := by
  have h := index_at (t := 25) (e := 3) (sz := 1) Try.underlying25 (by kernel_rfl) g 0 i len cap hi w
  rwa [Nat.zero_add, Nat.mul_one] at h
theorem six_cell {W : World} {g N q k v : Nat} (h : W.heap[g]? = some (.cells #[.int .i64 (N : Int), .int .i64 128, .int .i64 32768, .int .i64 32896, .int .i64 (q : Int), .int .i64 0] 3 (0, 0))) (hk : (sbN N q)[k]? = some v) : W.cell? ⟨g, k, none⟩ = some (.int .i64 (v : Int)) := by
  rw [cell8 h]
  have h6 : k < 6 := (List.getElem?_eq_some_iff.1 hk).1
  obtain rfl | rfl | rfl | rfl | rfl | rfl : k = 0 ∨ k = 1 ∨ k = 2 ∨ k = 3 ∨ k = 4 ∨ k = 5 := by omega
  all_goals
    simp [sbN] at hk
    subst hk
    rfl
set_option maxRecDepth 100000 in
set_option maxHeartbeats 1000000 in
theorem rline_nat (N q : Nat) (w : World) (h : okS (N : Int)) (hq : ((N : Int) - 32896) / 256 = (q : Int)) :
    Calls Try.prog 19 #[.agg #[.int .i64 (N : Int), .int .i64 128, .int .i64 32768, .int .i64 32896, .int .i64 (q : Int)]] w fun e w' => ∃ a c, e = .returned (.tuple #[.slice a 64 c, .int .i64 0]) ∧ Sl w' a (sbB N q) ∧ Below w.heap.size w w' := by
  have kp : ∀ W, Calls Try.prog 18 #[.int .i64 (N : Int)] W fun e w' => e = .returned (.tuple #[.agg #[.int .i64 (N : Int), .int .i64 128, .int .i64 32768, .int .i64 32896, .int .i64 (q : Int)], .int .i64 0]) ∧ Below W.heap.size W w' := fun W => by
    have k := rplan_ok (N : Int) W h
    unfold plC suC at k
    rw [hq] at k
    exact k
  obtain ⟨h1, h2, h3⟩ := h
  have hN : N ≤ 4194304 := by omega
  have hq2 : q ≤ 4194304 := by omega
  have hg := Try.noGuard37
  have he := fun W => eql_su (N : Int) 128 32768 32896 (q : Int) (N : Int) 128 32768 32896 (q : Int) W
  have hs : sameS (N : Int) 128 32768 32896 (q : Int) (N : Int) 128 32768 32896 (q : Int) = true := by simp [sameS]
  rw [hs] at he
  have KP := hide kp
  have HN := hide hN
  have HQ := hide hq2
  clear kp hN hq2 hq h1 h2 h3 hs
  go_enter Try.func19, Try.ntmps19
  go_wp2_with (first
    | (go_at_call 18; refine (KP.out _).mono ?_; rintro e W1 ⟨rfl, hB1⟩; have hb0 := row_after hB1; obtain ⟨c0, c1, c2, c3, c4⟩ := suBox hb0; obtain ⟨k0, k1, k2, k3, k4⟩ := suBox (row_keep hb0 ((Below.refl _ W1).alloc (Nat.le_refl _) (.cells #[.int .i64 (N : Int), .int .i64 128, .int .i64 32768, .int .i64 32896, .int .i64 (q : Int)] 37))); have h1 := ((Below.refl _ w).alloc (Nat.le_refl _) (.cells #[.int .i64 (N : Int), .int .i64 128, .int .i64 32768, .int .i64 32896, .int .i64 (q : Int)] 37)).trans (hB1.mono (by simp)); have HB1 := hide (h1.alloc (o := .cells #[.int .i64 (N : Int), .int .i64 128, .int .i64 32768, .int .i64 32896, .int .i64 (q : Int)] 37) h1.size); have HB0 := hide (row_keep hb0 ((Below.refl _ W1).alloc (Nat.le_refl _) (.cells #[.int .i64 (N : Int), .int .i64 128, .int .i64 32768, .int .i64 32896, .int .i64 (q : Int)] 37))); clear hB1 hb0 h1)
    | (go_at_call 34; refine (text_any _).mono ?_; rintro e W2 ⟨u, rfl, ho2, hB2⟩; obtain ⟨a2, cp2, hu, hsl⟩ := sl_of_owns (bs := sbName) ho2 sb_cap; replace hu := (show u = .slice a2 8 cp2 from hu); subst hu; obtain ⟨j0, j1, j2, j3, j4⟩ := suBox (row_keep HB0.out hB2); have HB2 := hide (HB1.out.trans (hB2.mono HB1.out.size)); have HS2 := hide hsl; clear ho2 hsl hB2))
  have hnew : (W2.alloc (.cells #[.int .i64 (N : Int), .int .i64 128, .int .i64 32768, .int .i64 32896, .int .i64 (q : Int), .int .i64 0] 3)).heap[W2.heap.size]? = some (.cells #[.int .i64 (N : Int), .int .i64 128, .int .i64 32768, .int .i64 32896, .int .i64 (q : Int), .int .i64 0] 3 (0, 0)) := heap_alloc_new W2 _
  have hsl3 : Sl (W2.alloc (.cells #[.int .i64 (N : Int), .int .i64 128, .int .i64 32768, .int .i64 32896, .int .i64 (q : Int), .int .i64 0] 3)) a2 (sbPre N q 0) := HS2.out.below ((Below.refl _ W2).alloc (Nat.le_refl _) _)
  have hb3 : Below w.heap.size w (W2.alloc (.cells #[.int .i64 (N : Int), .int .i64 128, .int .i64 32768, .int .i64 32896, .int .i64 (q : Int), .int .i64 0] 3)) := HB2.out.alloc HB2.out.size _
  have HNEW := hide hnew
  have HS3 := hide hsl3
  have HB3 := hide hb3
  clear hnew hsl3 hb3
  go_loopw [6, 8] (fun bv iv wr => ∃ (k : Nat) (a : Option Addr) (c : Nat), k ≤ 6 ∧ iv = .int .i64 (k : Int) ∧ bv = .slice a (8 + 8 * k) c ∧ Sl wr a (sbPre N q k) ∧ wr.heap[W2.heap.size]? = some (.cells #[.int .i64 (N : Int), .int .i64 128, .int .i64 32768, .int .i64 32896, .int .i64 (q : Int), .int .i64 0] 3 (0, 0)) ∧ Below w.heap.size w wr) (fun bv iv _ => (6 - (intOf iv).toNat))
  case atStart => exact ⟨0, a2, cp2, by omega, rfl, rfl, HS3.out, HNEW.out, HB3.out⟩
  case round =>
    clear HNEW HS3 HB3 c0 c1 c2 c3 c4 k0 k1 k2 k3 k4 j0 j1 j2 j3 j4
    obtain ⟨k, a, c, hk, rfl, rfl, hO, hZ, hB⟩ := hrel
    have hOl := sbPre_len N q k hk
    by_cases hlt : k < 6
    · have kI : (k : Int) < 6 := by omega
      obtain ⟨v, hv⟩ : ∃ v, (sbN N q)[k]? = some v := ⟨_, List.getElem?_eq_getElem hlt⟩
      have hv2 := sbN_lt HN.out HQ.out hv
      have wv : IntKind.u64.wrap (v : Int) = (v : Int) := by rw [IntKind.wrap_u64]; omega
      have cv := six_cell hZ hv
      have ix := fun X => index_i W2.heap.size k 6 6 hlt X
      have HV := hide hv
      have HV2 := hide hv2
      have HZ1 := hide hZ
      have HB := hide hB
      have HO := hide hO
      have HOL := hide hOl
      clear hO hZ hB hOl hv hv2
      go_wp2_with (first
        | (go_at_call 36; refine (little_sl v wr (by have := HV2.out; omega)).mono ?_; rintro e w1 ⟨a1, cc1, rfl, hs1, hb1⟩; have KT := hide (two_sl a a1 c cc1 (8 + 8 * k) 8 (sbPre N q k) (leB 8 v) w1 (HO.out.below hb1) hs1 HOL.out (leB_length 8 v) (by omega)); have HB1' := hide hb1; clear hs1 hb1)
        | (go_at_call 35; refine (KT.out).mono ?_; rintro e w2 ⟨a2', cc2, rfl, hs2, hb2⟩; have HS2' := hide hs2; have HB2' := hide (bseq HB1'.out hb2); clear hs2 hb2))
      go_roundw
      case rel =>
        refine ⟨k + 1, a2', cc2, by omega, int_congrP (by omega), by rw [show 8 + 8 * (k + 1) = 8 + 8 * k + 8 by omega], ?_, (HB2'.out.block _ (lt_of_heap HZ1.out)).trans HZ1.out, HB.out.trans (HB2'.out.mono HB.out.size)⟩
        rw [sbPre_succ N q k v HV.out]
        exact HS2'.out
      case measure => simp [intOf]; omega
    · obtain rfl : k = 6 := by omega
      have ks := rsum_any a c (sbPre N q 6) wr hO (by rw [hOl]; unfold maxLen; omega)
      rw [hOl] at ks
      obtain ⟨m, hm⟩ : ∃ m, m = moreV 0 (sbPre N q 6) := ⟨_, rfl⟩
      have hm2 : m < 4294967296 := by rw [hm]; exact moreV_lt 0 _ (by omega) (sbPre_lt N q 6)
      rw [← hm] at ks
      have wm : IntKind.u64.wrap (m : Int) = (m : Int) := by rw [IntKind.wrap_u64]; omega
      have KS := hide ks
      have HB := hide hB
      have HO := hide hO
      have HOL := hide hOl
      have HM := hide hm
      have HM2 := hide hm2
      clear hO hZ hB hOl hm hm2 ks
      go_wp2_with (first
        | (go_at_call 37; refine (KS.out).mono ?_; rintro e w1 ⟨rfl, hw⟩; obtain rfl := hw.symm)
        | (go_at_call 36; refine (little_sl m wr (by have := HM2.out; omega)).mono ?_; rintro e w1 ⟨a1, cc1, rfl, hs1, hb1⟩; have KT := hide (two_sl a a1 c cc1 56 8 (sbPre N q 6) (leB 8 m) w1 (HO.out.below hb1) hs1 HOL.out (leB_length 8 m) (by omega)); have HB1' := hide hb1; clear hs1 hb1)
        | (go_at_call 35; refine (KT.out).mono ?_; rintro e w2 ⟨a2', cc2, rfl, hs2, hb2⟩; have HS2' := hide hs2; have HB2' := hide (bseq HB1'.out hb2); clear hs2 hb2))
      go_ret2
      refine ⟨a2', cc2, rfl, ?_, HB.out.trans (HB2'.out.mono HB.out.size)⟩
      unfold sbB
      rw [← HM.out]
      exact HS2'.out
theorem rline_pl (a b c d e : Int) (W : World) (h : isPl a b c d e) : Calls Try.prog 19 #[.agg #[.int .i64 a, .int .i64 b, .int .i64 c, .int .i64 d, .int .i64 e]] W fun r w' => ∃ p cp, r = .returned (.tuple #[.slice p 64 cp, .int .i64 0]) ∧ Sl w' p (sbX a) ∧ Below W.heap.size W w' := by
  obtain ⟨hk, rfl, rfl, rfl, rfl⟩ := h
  obtain ⟨h1, h2, h3⟩ := id hk
  obtain ⟨N, rfl⟩ : ∃ N : Nat, a = (N : Int) := ⟨a.toNat, by omega⟩
  obtain ⟨q, hq⟩ : ∃ q : Nat, ((N : Int) - 32896) / 256 = (q : Int) := ⟨(((N : Int) - 32896) / 256).toNat, by omega⟩
  have k := rline_nat N q W hk hq
  unfold sbX
  rw [hq]
  exact k
end Go.Proofs.Ytmljacjbpcgijaa
namespace Go.Proofs.Ytmljacjbpcgijaa
open Go.RowKit Go.Shelf
set_option linter.unusedVariables false

theorem index_b8 (g i len cap : Nat) (hi : i < len) (w : World) : (Instr.indexAt 22 (.slice (some ⟨g, 0, none⟩) len cap) (.int .i64 (i : Int))).run Try.prog w = .ok (.pointer (some ⟨g, i, none⟩)) w := by
  have h := index_at (t := 22) (e := 5) (sz := 1) Try.underlying22 (by kernel_rfl) g 0 i len cap hi w
  rwa [Nat.mul_one, Nat.zero_add] at h
/-- A row of bytes under way, and what it is made by. -/
structure BkR (w wr : World) (g1 g N : Nat) (box : Array Value) : Prop where
  box : wr.heap[g1]? = some (.cells box 24 (0, 0))
  own : ∃ bs : List Nat, OwnB wr g bs ∧ bs.length = N ∧ ∀ x ∈ bs, x < 256
  nw : w.heap.size ≤ g
  bel : Below w.heap.size w wr
theorem BkR.at {w wr : World} {g1 g N i : Nat} {box : Array Value} (h : BkR w wr g1 g N box) (hi : i < N) : ∃ y : Nat, y < 256 ∧ wr.cell? ⟨g, i, none⟩ = some (.int .u8 (y : Int)) ∧ wr.frozen? ⟨g, i, none⟩ = false := by
  obtain ⟨bs, h1, h2, h3⟩ := h.own
  obtain ⟨y, hy⟩ : ∃ y, bs[i]? = some y := ⟨_, List.getElem?_eq_getElem (by omega)⟩
  exact ⟨y, h3 y (List.mem_of_getElem? hy), h1.cell i y hy, h1.frozen i⟩
theorem BkR.set {w wr : World} {g1 g N i x : Nat} {box : Array Value} (h : BkR w wr g1 g N box) (hx : x < 256) : BkR w (wr.setCell ⟨g, i, none⟩ (.int .u8 (x : Int))) g1 g N box := by
  obtain ⟨bs, h1, h2, h3⟩ := h.own
  refine ⟨(heap_set_ne _ _ _ _ _ (ne_ty h.box h1 (by decide))).trans h.box, ⟨bs.set i x, h1.set i x, by rw [List.length_set]; exact h2, fun y hy => (List.mem_or_eq_of_mem_set hy).elim (h3 y) (fun e => e ▸ hx)⟩, h.nw, h.bel.setCell h.nw _⟩
theorem BkR.drew {w wr : World} {g1 g N : Nat} {box : Array Value} (h : BkR w wr g1 g N box) : BkR w wr.drew g1 g N box := ⟨h.box, h.own, h.nw, h.bel.drew⟩
theorem BkR.below {w wr w' : World} {g1 g N : Nat} {box : Array Value} (h : BkR w wr g1 g N box) (hB : Below wr.heap.size wr w') : BkR w w' g1 g N box := by
  obtain ⟨bs, h1, h2, h3⟩ := h.own
  exact ⟨(hB.block _ (lt_of_heap h.box)).trans h.box, ⟨bs, h1.below hB h1.lt, h2, h3⟩, h.nw, bseq h.bel hB⟩
/-- Cells of bytes. -/
def U8s (w : World) (pb po n : Nat) : Prop := ∀ i, i < n → ∃ x : Nat, x < 256 ∧ w.cell? ⟨pb, po + i, none⟩ = some (.int .u8 (x : Int))
theorem U8s.set {w : World} {pb po n g i x : Nat} (h : U8s w pb po n) (hx : x < 256) (hg : ∃ c t, w.heap[g]? = some (.cells c t (0, 0))) : U8s (w.setCell ⟨g, i, none⟩ (.int .u8 (x : Int))) pb po n := fun j hj => by
  obtain ⟨y, hy, hc⟩ := h j hj
  by_cases e : pb = g ∧ po + j = i
  · obtain ⟨rfl, rfl⟩ := e
    obtain ⟨c, t, hg⟩ := hg
    refine ⟨x, hx, ?_⟩
    have hlt : po + j < c.size := by
      rw [cell8 hg] at hc
      exact (Array.getElem?_eq_some_iff.1 hc).1
    rw [cell8 (heap_set1 w pb (po + j) c t _ hg)]
    simp [hlt]
  · refine ⟨y, hy, ?_⟩
    rw [← hc]
    by_cases e1 : pb = g
    · subst e1
      have hne : i ≠ po + j := fun h => e ⟨rfl, h.symm⟩
      obtain ⟨c, t, hg⟩ := hg
      rw [cell8 (heap_set1 w pb i c t _ hg), cell8 hg]
      simp [hne]
    · exact World.cell?_of_block (a := ⟨pb, po + j, none⟩) (heap_set_ne _ _ _ _ _ e1)
theorem index_b8o (g o i len cap : Nat) (hi : i < len) (w : World) : (Instr.indexAt 22 (.slice (some ⟨g, o, none⟩) len cap) (.int .i64 (i : Int))).run Try.prog w = .ok (.pointer (some ⟨g, o + i, none⟩)) w := by
  have h := index_at (t := 22) (e := 5) (sz := 1) Try.underlying22 (by kernel_rfl) g o i len cap hi w
  rwa [Nat.mul_one] at h
theorem makeB_more (n : Nat) (hn : n ≤ 4194368) (w : World) : (Instr.makeSlice 22 (.int .i64 (n : Int)) (.int .i64 (n : Int))).run Try.prog w = .ok (.slice (some ⟨w.heap.size, 0, none⟩) n n) (w.alloc (.cells ((List.replicate n 0).map B8).toArray 5)) := by
  have h := run_make_row' (P := Try.prog) 22 5 (.int .u8 0) 1 Try.underlying22 (by kernel_rfl) rfl .i64 .i64 n (by omega) (by omega) w
  rw [h, madeB]
theorem shl_oneI (j : Nat) (hj : j < 8) : IntKind.u8.wrap ((2 : Int) ^ j) = ((2 ^ j : Nat) : Int) := by
  match j, hj with
  | 0, _ => rfl
  | 1, _ => rfl
  | 2, _ => rfl
  | 3, _ => rfl
  | 4, _ => rfl
  | 5, _ => rfl
  | 6, _ => rfl
  | 7, _ => rfl
/-- What bytes tells. -/
def ImD (w : World) (e : Ending) (w' : World) : Prop := ∃ (N : Nat) (bs : List Nat), bs.length = N ∧ (∀ x ∈ bs, x < 256) ∧ N ≤ 4194368 ∧ (e = .returned (.slice none 0 0) ∧ N = 0 ∨ ∃ g, e = .returned (.slice (some ⟨g, 0, none⟩) N N) ∧ OwnB w' g bs ∧ w.heap.size ≤ g) ∧ Below w.heap.size w w'
set_option maxRecDepth 100000 in
set_option maxHeartbeats 4000000 in
theorem imbytes_any (w : World) (sz tu : Int) (fi : Nat) (ha : Option Addr) (hl hc : Nat) (rt : Bool) (hd : List Nat) (hs : Sl w ha hd) (hdl : hd.length = hl) (hll : hl ≤ 9223372036854775807) (hfi : fi < 256) (hsz : -9223372036854775808 ≤ sz ∧ sz ≤ 9223372036854775807) (htu : -9223372036854775808 ≤ tu ∧ tu ≤ 9223372036854775807) :
    Calls Try.prog 4 #[.agg #[.int .i64 sz, .int .u8 (fi : Int), .slice ha hl hc, .bool rt, .int .i64 tu]] w fun e w' => ImD w e w' := by
  have hA : Below w.heap.size w (w.alloc (.cells #[.int .i64 sz, .int .u8 (fi : Int), .slice ha hl hc, .bool rt, .int .i64 tu] 24)) := (Below.refl _ w).alloc (Nat.le_refl _) _
  have hbx := heap_alloc_new w (.cells #[.int .i64 sz, .int .u8 (fi : Int), .slice ha hl hc, .bool rt, .int .i64 tu] 24)
  by_cases hn : sz < 0 ∨ 4194368 < sz
  · have HA := hide hA
    rcases hn with h1 | h1
    · clear hA hbx
      go_enter Try.func4, Try.ntmps4
      go_wp2
      go_ret
      exact ⟨0, [], rfl, by simp, by omega, .inl ⟨rfl, rfl⟩, HA.out⟩
    · have h0 : ¬ sz < 0 := by omega
      clear hA hbx
      go_enter Try.func4, Try.ntmps4
      go_wp2
      go_ret
      exact ⟨0, [], rfl, by simp, by omega, .inl ⟨rfl, rfl⟩, HA.out⟩
  · obtain ⟨N, rfl⟩ : ∃ N : Nat, sz = (N : Int) := ⟨sz.toNat, by omega⟩
    have hN : N ≤ 4194368 := by omega
    have n1 : ¬ (N : Int) < 0 := by omega
    have n2 : ¬ 4194368 < (N : Int) := by omega
    have hmk := makeB_more N hN (w.alloc (.cells #[.int .i64 (N : Int), .int .u8 (fi : Int), .slice ha hl hc, .bool rt, .int .i64 tu] 24))
    rw [World.size_alloc] at hmk
    have hb0 : BkR w ((w.alloc (.cells #[.int .i64 (N : Int), .int .u8 (fi : Int), .slice ha hl hc, .bool rt, .int .i64 tu] 24)).alloc (.cells ((List.replicate N 0).map B8).toArray 5)) w.heap.size (w.heap.size + 1) N #[.int .i64 (N : Int), .int .u8 (fi : Int), .slice ha hl hc, .bool rt, .int .i64 tu] := by
      have h5 := heap_alloc_new (w.alloc (.cells #[.int .i64 (N : Int), .int .u8 (fi : Int), .slice ha hl hc, .bool rt, .int .i64 tu] 24)) (.cells ((List.replicate N 0).map B8).toArray 5)
      rw [World.size_alloc] at h5
      refine ⟨row_keep hbx ((Below.refl _ _).alloc (Nat.le_refl _) _), ⟨List.replicate N 0, h5, by simp, fun x hx => ?_⟩, by omega, hA.alloc (by simp) _⟩
      have := (List.mem_replicate.1 hx).2
      omega
    obtain ⟨RZ, hRZ⟩ : ∃ RZ, RZ = ((List.replicate N 0).map B8).toArray := ⟨_, rfl⟩
    rw [← hRZ] at hmk hb0
    have HB0 := hide hb0
    have HA := hide hA
    have HS := hide hs
    have HDL := hide hdl
    clear hb0 hA hs hdl hRZ hbx hn
    go_enter Try.func4, Try.ntmps4
    go_wp2_with (fail)
    obtain ⟨g1, hg1⟩ : ∃ g1, g1 = w.heap.size := ⟨_, rfl⟩
    obtain ⟨g, hg⟩ : ∃ g, g = g1 + 1 := ⟨_, rfl⟩
    rw [← hg1, ← hg] at HB0 ⊢
    have hgw : w.heap.size ≤ g1 := by omega
    clear hg hg1 hmk
    try go_frame
    go_loopw [4] (fun iv wr => ∃ j : Nat, iv = .int .i64 (j : Int) ∧ j ≤ N ∧ BkR w wr g1 g N #[.int .i64 (N : Int), .int .u8 (fi : Int), .slice ha hl hc, .bool rt, .int .i64 tu]) (fun iv _ => (N - (intOf iv).toNat))
    case atStart => exact ⟨0, rfl, Nat.zero_le _, HB0.out⟩
    case round =>
      obtain ⟨j, rfl, hj, hbk⟩ := hrel
      by_cases hlt : j < N
      · have jI : (j : Int) < (N : Int) := by omega
        obtain ⟨y, hy, cy, fy⟩ := hbk.at hlt
        have b1 : wr.cell? ⟨g1, 1, none⟩ = some (.int .u8 (fi : Int)) := cell8 hbk.box 1
        have l1 := fun X => index_b8 g j N N hlt X
        have HST := hide (hbk.set (i := j) hfi)
        clear hbk hy
        go_wp2_with (fail)
        go_roundw
        case rel => exact ⟨j + 1, int_congrP (by omega), by omega, HST.out⟩
        case measure => simp [intOf]; omega
      · have jI : ¬ (j : Int) < (N : Int) := by omega
        have HBK := hide hbk
        clear hbk
        go_wp2_with (fail)
        go_loopw [5] (fun iv wr => ∃ j : Nat, iv = .int .i64 (j : Int) ∧ j ≤ N ∧ j ≤ hl ∧ BkR w wr g1 g N #[.int .i64 (N : Int), .int .u8 (fi : Int), .slice ha hl hc, .bool rt, .int .i64 tu]) (fun iv _ => (N - (intOf iv).toNat))
        case atStart => exact ⟨0, rfl, Nat.zero_le _, Nat.zero_le _, HBK.out⟩
        case round =>
          obtain ⟨j, rfl, hj, hjh, hbk⟩ := hrel
          have b2 : wr.cell? ⟨g1, 2, none⟩ = some (.slice ha hl hc) := cell8 hbk.box 2
          by_cases h1 : j < N
          · have jI : (j : Int) < (N : Int) := by omega
            by_cases h2 : j < hl
            · have jH : (j : Int) < (hl : Int) := by omega
              obtain ⟨hb, ho, rfl, hbl, hseg⟩ : ∃ hb ho, ha = some ⟨hb, ho, none⟩ ∧ hb < w.heap.size ∧ Seg w hb ho hd := HS.out.resolve_left (fun h => by have := HDL.out; rw [h] at this; simp at this; omega)
              obtain ⟨x, hx⟩ : ∃ x, hd[j]? = some x := ⟨_, List.getElem?_eq_getElem (by rw [HDL.out]; exact h2)⟩
              have hxl := (hseg j x hx).2
              have cx : wr.cell? ⟨hb, ho + j, none⟩ = some (.int .u8 (x : Int)) := (hbk.bel.cell (p := ⟨hb, ho + j, none⟩) hbl).trans (hseg j x hx).1
              obtain ⟨y, hy, cy, fy⟩ := hbk.at h1
              have l0 := fun X => index_b8o hb ho j hl hc h2 X
              have l1 := fun X => index_b8 g j N N h1 X
              have HST := hide (hbk.set (i := j) hxl)
              clear hbk hy hx hseg hxl
              go_wp2_with (fail)
              go_roundw
              case rel => exact ⟨j + 1, int_congrP (by omega), by omega, by omega, HST.out⟩
              case measure => simp [intOf]; omega
            · have jH : ¬ (j : Int) < (hl : Int) := by omega
              have HK2 := hide hbk
              have b0 : wr.cell? ⟨g1, 0, none⟩ = some (.int .i64 (N : Int)) := cell8 hbk.box 0
              clear hbk
              by_cases hok : okS (N : Int)
              · have kp : ∀ W, Calls Try.prog 18 #[.int .i64 (N : Int)] W fun r w' => r = .returned (.tuple #[.agg #[.int .i64 (N : Int), .int .i64 128, .int .i64 32768, .int .i64 32896, .int .i64 (((N : Int) - 32896) / 256)], .int .i64 0]) ∧ Below W.heap.size W w' := fun W => rplan_ok (N : Int) W hok
                have kln : ∀ W, Calls Try.prog 19 #[.agg #[.int .i64 (N : Int), .int .i64 128, .int .i64 32768, .int .i64 32896, .int .i64 (((N : Int) - 32896) / 256)]] W fun r w' => ∃ p cp, r = .returned (.tuple #[.slice p 64 cp, .int .i64 0]) ∧ Sl w' p (sbX (N : Int)) ∧ Below W.heap.size W w' := fun W => rline_pl (N : Int) 128 32768 32896 (((N : Int) - 32896) / 256) W ⟨hok, rfl, rfl, rfl, rfl⟩
                have h369 : 36992 ≤ N := by have := hok.1; omega
                have hsl := sbX_len (N : Int)
                generalize sbX (N : Int) = sb at *
                generalize ((N : Int) - 32896) / 256 = q at *
                have KP := hide kp
                have KLN := hide kln
                have HSL := hide hsl
                clear kp kln hsl hok
                go_upto_region 13 with (go_at_call 18; refine (KP.out _).mono ?_; rintro e V1 ⟨rfl, hB1⟩; have HB1 := hide hB1; clear hB1)
                have hB2 : Below wr.heap.size wr (V1.alloc (.cells #[.int .i64 (N : Int), .int .i64 128, .int .i64 32768, .int .i64 32896, .int .i64 q] 37)) := HB1.out.alloc HB1.out.size _
                have hp2 := heap_alloc_new V1 (.cells #[.int .i64 (N : Int), .int .i64 128, .int .i64 32768, .int .i64 32896, .int .i64 q] 37)
                have hk2 := HK2.out.below hB2
                obtain ⟨y0, y1, y2, y3, y4⟩ := suBox hp2
                have b3 : (V1.alloc (.cells #[.int .i64 (N : Int), .int .i64 128, .int .i64 32768, .int .i64 32896, .int .i64 q] 37)).cell? ⟨g1, 3, none⟩ = some (.bool rt) := cell8 hk2.box 3
                have HK3 := hide hk2
                generalize V1.alloc (.cells #[.int .i64 (N : Int), .int .i64 128, .int .i64 32768, .int .i64 32896, .int .i64 q] 37) = V2 at *
                clear hB2 hp2 hk2 b0
                cases rt with
                | false =>
                  go_wp2
                  go_ret
                  obtain ⟨bs, o1, o2, o3⟩ := HK3.out.own
                  exact ⟨N, bs, o2, o3, hN, .inr ⟨g, rfl, o1, HK3.out.nw⟩, HK3.out.bel⟩
                | true =>
                  go_wp2_with (go_at_call 19; refine (KLN.out _).mono ?_; rintro e V3 ⟨pp, cp, rfl, hs3, hB3⟩; have HS3 := hide hs3; have HB3 := hide hB3; clear hs3 hB3)
                  obtain ⟨pb, po, rfl, hpb, hseg⟩ : ∃ pb po, pp = some ⟨pb, po, none⟩ ∧ pb < V3.heap.size ∧ Seg V3 pb po sb := HS3.out.resolve_left (fun h => by have := HSL.out; rw [h] at this; cases this)
                  have hu8 : U8s V3 pb po 64 := fun i hi => by
                    obtain ⟨x, hx⟩ : ∃ x, sb[i]? = some x := ⟨_, List.getElem?_eq_getElem (by rw [HSL.out]; exact hi)⟩
                    exact ⟨x, (hseg i x hx).2, (hseg i x hx).1⟩
                  have HU := hide hu8
                  have HK4 := hide (HK3.out.below HB3.out)
                  clear hseg hpb hu8 y0 y1 y2 y3 y4 b3
                  try go_frame
                  go_loopw [10] (fun iv X => ∃ i : Nat, iv = .int .i64 (i : Int) ∧ i ≤ 64 ∧ BkR w X g1 g N #[.int .i64 (N : Int), .int .u8 (fi : Int), .slice ha hl hc, .bool true, .int .i64 tu] ∧ U8s X pb po 64) (fun iv _ => (64 - (intOf iv).toNat))
                  case atStart => exact ⟨0, rfl, Nat.zero_le _, HK4.out, HU.out⟩
                  case round =>
                    rename World => X
                    obtain ⟨i, rfl, hi, hbk, hu⟩ := hrel
                    by_cases hlt : i < 64
                    · have iI : (i : Int) < 64 := by omega
                      obtain ⟨x, hx, cx⟩ := hu i hlt
                      obtain ⟨y, hy, cy, fy⟩ := hbk.at (i := i) (by omega)
                      have l0 := fun X => index_b8o pb po i 64 cp hlt X
                      have l1 := fun X => index_b8 g i N N (by omega) X
                      have hst := hbk.set (i := i) hx
                      obtain ⟨bs, o1, _⟩ := hbk.own
                      have hus := hu.set (i := i) hx ⟨_, _, o1⟩
                      have HST := hide hst
                      have HUS := hide hus
                      clear hst hus o1 hbk hu hy hx
                      go_wp2_with (fail)
                      go_roundw
                      case rel => exact ⟨i + 1, int_congrP (by omega), by omega, HST.out, HUS.out⟩
                      case measure => simp [intOf]; omega
                    · have iI : ¬ (i : Int) < 64 := by omega
                      have HK := hide hbk
                      clear hbk hu
                      have c4 : X.cell? ⟨g1, 4, none⟩ = some (.int .i64 tu) := cell8 HK.out.box 4
                      by_cases ht1 : 0 < tu
                      · by_cases ht2 : tu ≤ 512
                        · obtain ⟨k, hk⟩ : ∃ k : Nat, tu - 1 = (k : Int) := ⟨(tu - 1).toNat, by omega⟩
                          obtain ⟨ki, hki⟩ : ∃ ki : Nat, ki = k / 8 := ⟨_, rfl⟩
                          obtain ⟨j, hj⟩ : ∃ j : Nat, j = k % 8 := ⟨_, rfl⟩
                          have kI : (k : Int) < 512 := by omega
                          have wk : IntKind.i64.wrap (tu - 1) = (k : Int) := by rw [IntKind.wrap_i64]; omega
                          have q1 : (k : Int).tdiv 8 = (ki : Int) := by rw [Int.tdiv_eq_ediv_of_nonneg (by omega)]; omega
                          have q2 : (k : Int) / 8 = (ki : Int) := by omega
                          have r1 : (k : Int).tmod 8 = (j : Int) := by rw [Int.tmod_eq_emod_of_nonneg (by omega)]; omega
                          have r2 : (k : Int) % 8 = (j : Int) := by omega
                          have hki2 : ki < 64 := by omega
                          have hj2 : j < 8 := by omega
                          have wki : IntKind.i64.wrap (ki : Int) = (ki : Int) := by rw [IntKind.wrap_i64]; omega
                          obtain ⟨y, hy, cy, fy⟩ := HK.out.at (i := ki) (by omega)
                          obtain ⟨p, hp⟩ : ∃ p : Nat, p = 2 ^ j := ⟨_, rfl⟩
                          have hp2 : p < 256 := by rw [hp]; exact Nat.lt_of_lt_of_le (Nat.pow_lt_pow_right (by omega) hj2) (by decide)
                          have hsh : IntKind.u8.wrap ((2 : Int) ^ j) = (p : Int) := by rw [hp]; exact shl_oneI j hj2
                          have hxo : bits BinOp.xor IntKind.u8 (y : Int) (p : Int) = ((y ^^^ p : Nat) : Int) := u8_xor_nat y p hy hp2
                          have hzl : y ^^^ p < 256 := Nat.xor_lt_two_pow (n := 8) hy hp2
                          generalize y ^^^ p = zz at *
                          have X2 := hide (fun X => index_b8 g ki N N (by omega) X)
                          have s0 : X.drew.cell? ⟨g, ki, none⟩ = some (.int .u8 (y : Int)) ∧ X.drew.cell? ⟨g1, 4, none⟩ = some (.int .i64 tu) := ⟨cy, c4⟩
                          have S0 := hide s0
                          have HZL := hide hzl
                          have FY := hide fy
                          clear hk hki hj hy hp hp2 hzl s0 fy
                          go_wp2_with (fail)
                          try go_frame
                          refine wp_region_early 19 (fun X => X.cell? ⟨g, ki, none⟩ = some (.int .u8 (y : Int)) ∧ X.cell? ⟨g1, 4, none⟩ = some (.int .i64 tu)) (by kernel_rfl) S0.out (fun hS => ?_)
                          refine wpAnyE_take (i := 0) (v := (Value.slice (some ⟨g, 0, none⟩) N N)) rfl (by kernel_rfl) (by kernel_rfl) (by kernel_rfl) (by kernel_rfl) (fun _ _ _ h => h) (Or.inl ⟨by kernel_rfl, fun w' hw => by (go_simp)⟩) hS ?_
                          refine wpAnyE_take (i := 1) (v := (Value.pointer (some ⟨g1, 4, none⟩))) rfl (by kernel_rfl) (by kernel_rfl) (by kernel_rfl) (by kernel_rfl) (fun _ _ _ h => h) (Or.inl ⟨by kernel_rfl, fun w' hw => by (go_simp)⟩) hS ?_
                          refine wpAnyE_take (i := 2) (v := (Value.int .i64 tu)) rfl (by kernel_rfl) (by kernel_rfl) (by kernel_rfl) (by kernel_rfl) (fun _ _ _ h => h) (Or.inl ⟨by kernel_rfl, fun w' hw => by (obtain ⟨z0, z1⟩ := hw; go_simp)⟩) hS ?_
                          refine wpAnyE_take (i := 3) (v := (Value.int .i64 (k : Int))) rfl (by kernel_rfl) (by kernel_rfl) (by kernel_rfl) (by kernel_rfl) (fun _ _ _ h => h) (Or.inl ⟨by kernel_rfl, fun w' hw => by (go_simp)⟩) hS ?_
                          refine wpAnyE_take (i := 4) (v := (Value.int .i64 (ki : Int))) rfl (by kernel_rfl) (by kernel_rfl) (by kernel_rfl) (by kernel_rfl) (fun _ _ _ h => h) (Or.inl ⟨by kernel_rfl, fun w' hw => by (go_simp)⟩) hS ?_
                          refine wpAnyE_take (i := 5) (v := (Value.slice (some ⟨g, 0, none⟩) N N)) rfl (by kernel_rfl) (by kernel_rfl) (by kernel_rfl) (by kernel_rfl) (fun _ _ _ h => h) (Or.inl ⟨by kernel_rfl, fun w' hw => by (go_simp)⟩) hS ?_
                          refine wpAnyE_take (i := 6) (v := (Value.pointer (some ⟨g1, 4, none⟩))) rfl (by kernel_rfl) (by kernel_rfl) (by kernel_rfl) (by kernel_rfl) (fun _ _ _ h => h) (Or.inl ⟨by kernel_rfl, fun w' hw => by (go_simp)⟩) hS ?_
                          refine wpAnyE_take (i := 7) (v := (Value.int .i64 tu)) rfl (by kernel_rfl) (by kernel_rfl) (by kernel_rfl) (by kernel_rfl) (fun _ _ _ h => h) (Or.inl ⟨by kernel_rfl, fun w' hw => by (obtain ⟨z0, z1⟩ := hw; go_simp)⟩) hS ?_
                          refine wpAnyE_take (i := 8) (v := (Value.int .i64 (k : Int))) rfl (by kernel_rfl) (by kernel_rfl) (by kernel_rfl) (by kernel_rfl) (fun _ _ _ h => h) (Or.inl ⟨by kernel_rfl, fun w' hw => by (go_simp)⟩) hS ?_
                          refine wpAnyE_take (i := 9) (v := (Value.int .i64 (ki : Int))) rfl (by kernel_rfl) (by kernel_rfl) (by kernel_rfl) (by kernel_rfl) (fun _ _ _ h => h) (Or.inl ⟨by kernel_rfl, fun w' hw => by (go_simp)⟩) hS ?_
                          refine wpAnyE_take (i := 10) (v := (Value.pointer (some ⟨g, ki, none⟩))) rfl (by kernel_rfl) (by kernel_rfl) (by kernel_rfl) (by kernel_rfl) (fun _ _ _ h => h) (Or.inl ⟨by kernel_rfl, fun w' hw => by (have e := X2.out w'; go_simp)⟩) hS ?_
                          refine wpAnyE_take (i := 11) (v := (Value.int .u8 (y : Int))) rfl (by kernel_rfl) (by kernel_rfl) (by kernel_rfl) (by kernel_rfl) (fun _ _ _ h => h) (Or.inl ⟨by kernel_rfl, fun w' hw => by (obtain ⟨z0, z1⟩ := hw; go_simp)⟩) hS ?_
                          refine wpAnyE_take (i := 12) (v := (Value.pointer (some ⟨g1, 4, none⟩))) rfl (by kernel_rfl) (by kernel_rfl) (by kernel_rfl) (by kernel_rfl) (fun _ _ _ h => h) (Or.inl ⟨by kernel_rfl, fun w' hw => by (go_simp)⟩) hS ?_
                          refine wpAnyE_take (i := 13) (v := (Value.int .i64 tu)) rfl (by kernel_rfl) (by kernel_rfl) (by kernel_rfl) (by kernel_rfl) (fun _ _ _ h => h) (Or.inl ⟨by kernel_rfl, fun w' hw => by (obtain ⟨z0, z1⟩ := hw; go_simp)⟩) hS ?_
                          refine wpAnyE_take (i := 14) (v := (Value.int .i64 (k : Int))) rfl (by kernel_rfl) (by kernel_rfl) (by kernel_rfl) (by kernel_rfl) (fun _ _ _ h => h) (Or.inl ⟨by kernel_rfl, fun w' hw => by (go_simp)⟩) hS ?_
                          refine wpAnyE_take (i := 15) (v := (Value.int .i64 (j : Int))) rfl (by kernel_rfl) (by kernel_rfl) (by kernel_rfl) (by kernel_rfl) (fun _ _ _ h => h) (Or.inl ⟨by kernel_rfl, fun w' hw => by (go_simp)⟩) hS ?_
                          refine wpAnyE_take (i := 16) (v := (Value.int .u8 (p : Int))) rfl (by kernel_rfl) (by kernel_rfl) (by kernel_rfl) (by kernel_rfl) (fun _ _ _ h => h) (Or.inl ⟨by kernel_rfl, fun w' hw => by (go_simp)⟩) hS ?_
                          refine wpAnyE_take (i := 17) (v := (Value.int .u8 (zz : Int))) rfl (by kernel_rfl) (by kernel_rfl) (by kernel_rfl) (by kernel_rfl) (fun _ _ _ h => h) (Or.inl ⟨by kernel_rfl, fun w' hw => by (go_simp)⟩) hS ?_
                          refine wpAnyE_take (i := 18) (v := (Value.pointer (some ⟨g, ki, none⟩))) rfl (by kernel_rfl) (by kernel_rfl) (by kernel_rfl) (by kernel_rfl) (fun _ _ _ h => h) (Or.inl ⟨by kernel_rfl, fun w' hw => by (have e := X2.out w'; go_simp)⟩) hS ?_
                          refine wpAnyE_last (by kernel_rfl) rfl (by kernel_rfl) (by kernel_rfl) (fun K hK => ?_)
                          have f4 := FY.out
                          have c9 := S0.out.1
                          go_simp
                          refine hK.out _ _ ?_
                          try simp only [Act.put, List.getElem_toArray, List.getElem_cons_zero, List.getElem_cons_succ, List.setIfInBounds_toArray, List.set_cons_zero, List.set_cons_succ]
                          clear hK K
                          have hk9 := (HK.out.set (i := ki) HZL.out).drew
                          have HK9 := hide hk9
                          clear hk9 c9 f4 cy c4
                          go_wp2_with (fail)
                          go_ret
                          obtain ⟨bs, o1, o2, o3⟩ := HK9.out.own
                          exact ⟨N, bs, o2, o3, hN, .inr ⟨g, rfl, o1, HK9.out.nw⟩, HK9.out.bel⟩
                        · have ht3 : ¬ tu ≤ 512 := ht2
                          go_wp2
                          go_ret
                          obtain ⟨bs, o1, o2, o3⟩ := HK.out.own
                          exact ⟨N, bs, o2, o3, hN, .inr ⟨g, rfl, o1, HK.out.nw⟩, HK.out.bel⟩
                      · go_wp2
                        go_ret
                        obtain ⟨bs, o1, o2, o3⟩ := HK.out.own
                        exact ⟨N, bs, o2, o3, hN, .inr ⟨g, rfl, o1, HK.out.nw⟩, HK.out.bel⟩
              · have kp : ∀ W, Calls Try.prog 18 #[.int .i64 (N : Int)] W fun r w' => r = .returned (.tuple #[.agg #[.int .i64 0, .int .i64 0, .int .i64 0, .int .i64 0, .int .i64 0], .int .i64 80]) ∧ Below W.heap.size W w' := fun W => rplan_no (N : Int) W (by omega) (by omega) hok
                have KP := hide kp
                clear kp hok
                go_upto_region 13 with (go_at_call 18; refine (KP.out _).mono ?_; rintro e V1 ⟨rfl, hB1⟩; have HB1 := hide hB1; clear hB1)
                have hB2 : Below wr.heap.size wr (V1.alloc (.cells #[.int .i64 0, .int .i64 0, .int .i64 0, .int .i64 0, .int .i64 0] 37)) := HB1.out.alloc HB1.out.size _
                have hk2 := HK2.out.below hB2
                have b3 : (V1.alloc (.cells #[.int .i64 0, .int .i64 0, .int .i64 0, .int .i64 0, .int .i64 0] 37)).cell? ⟨g1, 3, none⟩ = some (.bool rt) := cell8 hk2.box 3
                have HK3 := hide hk2
                generalize V1.alloc (.cells #[.int .i64 0, .int .i64 0, .int .i64 0, .int .i64 0, .int .i64 0] 37) = V2 at *
                clear hB2 hk2 b0
                cases rt with
                | false =>
                  go_wp2
                  go_ret
                  obtain ⟨bs, o1, o2, o3⟩ := HK3.out.own
                  exact ⟨N, bs, o2, o3, hN, .inr ⟨g, rfl, o1, HK3.out.nw⟩, HK3.out.bel⟩
                | true =>
                  go_wp2
                  go_ret
                  obtain ⟨bs, o1, o2, o3⟩ := HK3.out.own
                  exact ⟨N, bs, o2, o3, hN, .inr ⟨g, rfl, o1, HK3.out.nw⟩, HK3.out.bel⟩
          · have jI : ¬ (j : Int) < (N : Int) := by omega
            have HK2 := hide hbk
            have b0 : wr.cell? ⟨g1, 0, none⟩ = some (.int .i64 (N : Int)) := cell8 hbk.box 0
            clear hbk
            by_cases hok : okS (N : Int)
            · have kp : ∀ W, Calls Try.prog 18 #[.int .i64 (N : Int)] W fun r w' => r = .returned (.tuple #[.agg #[.int .i64 (N : Int), .int .i64 128, .int .i64 32768, .int .i64 32896, .int .i64 (((N : Int) - 32896) / 256)], .int .i64 0]) ∧ Below W.heap.size W w' := fun W => rplan_ok (N : Int) W hok
              have kln : ∀ W, Calls Try.prog 19 #[.agg #[.int .i64 (N : Int), .int .i64 128, .int .i64 32768, .int .i64 32896, .int .i64 (((N : Int) - 32896) / 256)]] W fun r w' => ∃ p cp, r = .returned (.tuple #[.slice p 64 cp, .int .i64 0]) ∧ Sl w' p (sbX (N : Int)) ∧ Below W.heap.size W w' := fun W => rline_pl (N : Int) 128 32768 32896 (((N : Int) - 32896) / 256) W ⟨hok, rfl, rfl, rfl, rfl⟩
              have h369 : 36992 ≤ N := by have := hok.1; omega
              have hsl := sbX_len (N : Int)
              generalize sbX (N : Int) = sb at *
              generalize ((N : Int) - 32896) / 256 = q at *
              have KP := hide kp
              have KLN := hide kln
              have HSL := hide hsl
              clear kp kln hsl hok
              go_upto_region 13 with (go_at_call 18; refine (KP.out _).mono ?_; rintro e V1 ⟨rfl, hB1⟩; have HB1 := hide hB1; clear hB1)
              have hB2 : Below wr.heap.size wr (V1.alloc (.cells #[.int .i64 (N : Int), .int .i64 128, .int .i64 32768, .int .i64 32896, .int .i64 q] 37)) := HB1.out.alloc HB1.out.size _
              have hp2 := heap_alloc_new V1 (.cells #[.int .i64 (N : Int), .int .i64 128, .int .i64 32768, .int .i64 32896, .int .i64 q] 37)
              have hk2 := HK2.out.below hB2
              obtain ⟨y0, y1, y2, y3, y4⟩ := suBox hp2
              have b3 : (V1.alloc (.cells #[.int .i64 (N : Int), .int .i64 128, .int .i64 32768, .int .i64 32896, .int .i64 q] 37)).cell? ⟨g1, 3, none⟩ = some (.bool rt) := cell8 hk2.box 3
              have HK3 := hide hk2
              generalize V1.alloc (.cells #[.int .i64 (N : Int), .int .i64 128, .int .i64 32768, .int .i64 32896, .int .i64 q] 37) = V2 at *
              clear hB2 hp2 hk2 b0
              cases rt with
              | false =>
                go_wp2
                go_ret
                obtain ⟨bs, o1, o2, o3⟩ := HK3.out.own
                exact ⟨N, bs, o2, o3, hN, .inr ⟨g, rfl, o1, HK3.out.nw⟩, HK3.out.bel⟩
              | true =>
                go_wp2_with (go_at_call 19; refine (KLN.out _).mono ?_; rintro e V3 ⟨pp, cp, rfl, hs3, hB3⟩; have HS3 := hide hs3; have HB3 := hide hB3; clear hs3 hB3)
                obtain ⟨pb, po, rfl, hpb, hseg⟩ : ∃ pb po, pp = some ⟨pb, po, none⟩ ∧ pb < V3.heap.size ∧ Seg V3 pb po sb := HS3.out.resolve_left (fun h => by have := HSL.out; rw [h] at this; cases this)
                have hu8 : U8s V3 pb po 64 := fun i hi => by
                  obtain ⟨x, hx⟩ : ∃ x, sb[i]? = some x := ⟨_, List.getElem?_eq_getElem (by rw [HSL.out]; exact hi)⟩
                  exact ⟨x, (hseg i x hx).2, (hseg i x hx).1⟩
                have HU := hide hu8
                have HK4 := hide (HK3.out.below HB3.out)
                clear hseg hpb hu8 y0 y1 y2 y3 y4 b3
                try go_frame
                go_loopw [10] (fun iv X => ∃ i : Nat, iv = .int .i64 (i : Int) ∧ i ≤ 64 ∧ BkR w X g1 g N #[.int .i64 (N : Int), .int .u8 (fi : Int), .slice ha hl hc, .bool true, .int .i64 tu] ∧ U8s X pb po 64) (fun iv _ => (64 - (intOf iv).toNat))
                case atStart => exact ⟨0, rfl, Nat.zero_le _, HK4.out, HU.out⟩
                case round =>
                  rename World => X
                  obtain ⟨i, rfl, hi, hbk, hu⟩ := hrel
                  by_cases hlt : i < 64
                  · have iI : (i : Int) < 64 := by omega
                    obtain ⟨x, hx, cx⟩ := hu i hlt
                    obtain ⟨y, hy, cy, fy⟩ := hbk.at (i := i) (by omega)
                    have l0 := fun X => index_b8o pb po i 64 cp hlt X
                    have l1 := fun X => index_b8 g i N N (by omega) X
                    have hst := hbk.set (i := i) hx
                    obtain ⟨bs, o1, _⟩ := hbk.own
                    have hus := hu.set (i := i) hx ⟨_, _, o1⟩
                    have HST := hide hst
                    have HUS := hide hus
                    clear hst hus o1 hbk hu hy hx
                    go_wp2_with (fail)
                    go_roundw
                    case rel => exact ⟨i + 1, int_congrP (by omega), by omega, HST.out, HUS.out⟩
                    case measure => simp [intOf]; omega
                  · have iI : ¬ (i : Int) < 64 := by omega
                    have HK := hide hbk
                    clear hbk hu
                    have c4 : X.cell? ⟨g1, 4, none⟩ = some (.int .i64 tu) := cell8 HK.out.box 4
                    by_cases ht1 : 0 < tu
                    · by_cases ht2 : tu ≤ 512
                      · obtain ⟨k, hk⟩ : ∃ k : Nat, tu - 1 = (k : Int) := ⟨(tu - 1).toNat, by omega⟩
                        obtain ⟨ki, hki⟩ : ∃ ki : Nat, ki = k / 8 := ⟨_, rfl⟩
                        obtain ⟨j, hj⟩ : ∃ j : Nat, j = k % 8 := ⟨_, rfl⟩
                        have kI : (k : Int) < 512 := by omega
                        have wk : IntKind.i64.wrap (tu - 1) = (k : Int) := by rw [IntKind.wrap_i64]; omega
                        have q1 : (k : Int).tdiv 8 = (ki : Int) := by rw [Int.tdiv_eq_ediv_of_nonneg (by omega)]; omega
                        have q2 : (k : Int) / 8 = (ki : Int) := by omega
                        have r1 : (k : Int).tmod 8 = (j : Int) := by rw [Int.tmod_eq_emod_of_nonneg (by omega)]; omega
                        have r2 : (k : Int) % 8 = (j : Int) := by omega
                        have hki2 : ki < 64 := by omega
                        have hj2 : j < 8 := by omega
                        have wki : IntKind.i64.wrap (ki : Int) = (ki : Int) := by rw [IntKind.wrap_i64]; omega
                        obtain ⟨y, hy, cy, fy⟩ := HK.out.at (i := ki) (by omega)
                        obtain ⟨p, hp⟩ : ∃ p : Nat, p = 2 ^ j := ⟨_, rfl⟩
                        have hp2 : p < 256 := by rw [hp]; exact Nat.lt_of_lt_of_le (Nat.pow_lt_pow_right (by omega) hj2) (by decide)
                        have hsh : IntKind.u8.wrap ((2 : Int) ^ j) = (p : Int) := by rw [hp]; exact shl_oneI j hj2
                        have hxo : bits BinOp.xor IntKind.u8 (y : Int) (p : Int) = ((y ^^^ p : Nat) : Int) := u8_xor_nat y p hy hp2
                        have hzl : y ^^^ p < 256 := Nat.xor_lt_two_pow (n := 8) hy hp2
                        generalize y ^^^ p = zz at *
                        have X2 := hide (fun X => index_b8 g ki N N (by omega) X)
                        have s0 : X.drew.cell? ⟨g, ki, none⟩ = some (.int .u8 (y : Int)) ∧ X.drew.cell? ⟨g1, 4, none⟩ = some (.int .i64 tu) := ⟨cy, c4⟩
                        have S0 := hide s0
                        have HZL := hide hzl
                        have FY := hide fy
                        clear hk hki hj hy hp hp2 hzl s0 fy
                        go_wp2_with (fail)
                        try go_frame
                        refine wp_region_early 19 (fun X => X.cell? ⟨g, ki, none⟩ = some (.int .u8 (y : Int)) ∧ X.cell? ⟨g1, 4, none⟩ = some (.int .i64 tu)) (by kernel_rfl) S0.out (fun hS => ?_)
                        refine wpAnyE_take (i := 0) (v := (Value.slice (some ⟨g, 0, none⟩) N N)) rfl (by kernel_rfl) (by kernel_rfl) (by kernel_rfl) (by kernel_rfl) (fun _ _ _ h => h) (Or.inl ⟨by kernel_rfl, fun w' hw => by (go_simp)⟩) hS ?_
                        refine wpAnyE_take (i := 1) (v := (Value.pointer (some ⟨g1, 4, none⟩))) rfl (by kernel_rfl) (by kernel_rfl) (by kernel_rfl) (by kernel_rfl) (fun _ _ _ h => h) (Or.inl ⟨by kernel_rfl, fun w' hw => by (go_simp)⟩) hS ?_
                        refine wpAnyE_take (i := 2) (v := (Value.int .i64 tu)) rfl (by kernel_rfl) (by kernel_rfl) (by kernel_rfl) (by kernel_rfl) (fun _ _ _ h => h) (Or.inl ⟨by kernel_rfl, fun w' hw => by (obtain ⟨z0, z1⟩ := hw; go_simp)⟩) hS ?_
                        refine wpAnyE_take (i := 3) (v := (Value.int .i64 (k : Int))) rfl (by kernel_rfl) (by kernel_rfl) (by kernel_rfl) (by kernel_rfl) (fun _ _ _ h => h) (Or.inl ⟨by kernel_rfl, fun w' hw => by (go_simp)⟩) hS ?_
                        refine wpAnyE_take (i := 4) (v := (Value.int .i64 (ki : Int))) rfl (by kernel_rfl) (by kernel_rfl) (by kernel_rfl) (by kernel_rfl) (fun _ _ _ h => h) (Or.inl ⟨by kernel_rfl, fun w' hw => by (go_simp)⟩) hS ?_
                        refine wpAnyE_take (i := 5) (v := (Value.slice (some ⟨g, 0, none⟩) N N)) rfl (by kernel_rfl) (by kernel_rfl) (by kernel_rfl) (by kernel_rfl) (fun _ _ _ h => h) (Or.inl ⟨by kernel_rfl, fun w' hw => by (go_simp)⟩) hS ?_
                        refine wpAnyE_take (i := 6) (v := (Value.pointer (some ⟨g1, 4, none⟩))) rfl (by kernel_rfl) (by kernel_rfl) (by kernel_rfl) (by kernel_rfl) (fun _ _ _ h => h) (Or.inl ⟨by kernel_rfl, fun w' hw => by (go_simp)⟩) hS ?_
                        refine wpAnyE_take (i := 7) (v := (Value.int .i64 tu)) rfl (by kernel_rfl) (by kernel_rfl) (by kernel_rfl) (by kernel_rfl) (fun _ _ _ h => h) (Or.inl ⟨by kernel_rfl, fun w' hw => by (obtain ⟨z0, z1⟩ := hw; go_simp)⟩) hS ?_
                        refine wpAnyE_take (i := 8) (v := (Value.int .i64 (k : Int))) rfl (by kernel_rfl) (by kernel_rfl) (by kernel_rfl) (by kernel_rfl) (fun _ _ _ h => h) (Or.inl ⟨by kernel_rfl, fun w' hw => by (go_simp)⟩) hS ?_
                        refine wpAnyE_take (i := 9) (v := (Value.int .i64 (ki : Int))) rfl (by kernel_rfl) (by kernel_rfl) (by kernel_rfl) (by kernel_rfl) (fun _ _ _ h => h) (Or.inl ⟨by kernel_rfl, fun w' hw => by (go_simp)⟩) hS ?_
                        refine wpAnyE_take (i := 10) (v := (Value.pointer (some ⟨g, ki, none⟩))) rfl (by kernel_rfl) (by kernel_rfl) (by kernel_rfl) (by kernel_rfl) (fun _ _ _ h => h) (Or.inl ⟨by kernel_rfl, fun w' hw => by (have e := X2.out w'; go_simp)⟩) hS ?_
                        refine wpAnyE_take (i := 11) (v := (Value.int .u8 (y : Int))) rfl (by kernel_rfl) (by kernel_rfl) (by kernel_rfl) (by kernel_rfl) (fun _ _ _ h => h) (Or.inl ⟨by kernel_rfl, fun w' hw => by (obtain ⟨z0, z1⟩ := hw; go_simp)⟩) hS ?_
                        refine wpAnyE_take (i := 12) (v := (Value.pointer (some ⟨g1, 4, none⟩))) rfl (by kernel_rfl) (by kernel_rfl) (by kernel_rfl) (by kernel_rfl) (fun _ _ _ h => h) (Or.inl ⟨by kernel_rfl, fun w' hw => by (go_simp)⟩) hS ?_
                        refine wpAnyE_take (i := 13) (v := (Value.int .i64 tu)) rfl (by kernel_rfl) (by kernel_rfl) (by kernel_rfl) (by kernel_rfl) (fun _ _ _ h => h) (Or.inl ⟨by kernel_rfl, fun w' hw => by (obtain ⟨z0, z1⟩ := hw; go_simp)⟩) hS ?_
                        refine wpAnyE_take (i := 14) (v := (Value.int .i64 (k : Int))) rfl (by kernel_rfl) (by kernel_rfl) (by kernel_rfl) (by kernel_rfl) (fun _ _ _ h => h) (Or.inl ⟨by kernel_rfl, fun w' hw => by (go_simp)⟩) hS ?_
                        refine wpAnyE_take (i := 15) (v := (Value.int .i64 (j : Int))) rfl (by kernel_rfl) (by kernel_rfl) (by kernel_rfl) (by kernel_rfl) (fun _ _ _ h => h) (Or.inl ⟨by kernel_rfl, fun w' hw => by (go_simp)⟩) hS ?_
                        refine wpAnyE_take (i := 16) (v := (Value.int .u8 (p : Int))) rfl (by kernel_rfl) (by kernel_rfl) (by kernel_rfl) (by kernel_rfl) (fun _ _ _ h => h) (Or.inl ⟨by kernel_rfl, fun w' hw => by (go_simp)⟩) hS ?_
                        refine wpAnyE_take (i := 17) (v := (Value.int .u8 (zz : Int))) rfl (by kernel_rfl) (by kernel_rfl) (by kernel_rfl) (by kernel_rfl) (fun _ _ _ h => h) (Or.inl ⟨by kernel_rfl, fun w' hw => by (go_simp)⟩) hS ?_
                        refine wpAnyE_take (i := 18) (v := (Value.pointer (some ⟨g, ki, none⟩))) rfl (by kernel_rfl) (by kernel_rfl) (by kernel_rfl) (by kernel_rfl) (fun _ _ _ h => h) (Or.inl ⟨by kernel_rfl, fun w' hw => by (have e := X2.out w'; go_simp)⟩) hS ?_
                        refine wpAnyE_last (by kernel_rfl) rfl (by kernel_rfl) (by kernel_rfl) (fun K hK => ?_)
                        have f4 := FY.out
                        have c9 := S0.out.1
                        go_simp
                        refine hK.out _ _ ?_
                        try simp only [Act.put, List.getElem_toArray, List.getElem_cons_zero, List.getElem_cons_succ, List.setIfInBounds_toArray, List.set_cons_zero, List.set_cons_succ]
                        clear hK K
                        have hk9 := (HK.out.set (i := ki) HZL.out).drew
                        have HK9 := hide hk9
                        clear hk9 c9 f4 cy c4
                        go_wp2_with (fail)
                        go_ret
                        obtain ⟨bs, o1, o2, o3⟩ := HK9.out.own
                        exact ⟨N, bs, o2, o3, hN, .inr ⟨g, rfl, o1, HK9.out.nw⟩, HK9.out.bel⟩
                      · have ht3 : ¬ tu ≤ 512 := ht2
                        go_wp2
                        go_ret
                        obtain ⟨bs, o1, o2, o3⟩ := HK.out.own
                        exact ⟨N, bs, o2, o3, hN, .inr ⟨g, rfl, o1, HK.out.nw⟩, HK.out.bel⟩
                    · go_wp2
                      go_ret
                      obtain ⟨bs, o1, o2, o3⟩ := HK.out.own
                      exact ⟨N, bs, o2, o3, hN, .inr ⟨g, rfl, o1, HK.out.nw⟩, HK.out.bel⟩
            · have kp : ∀ W, Calls Try.prog 18 #[.int .i64 (N : Int)] W fun r w' => r = .returned (.tuple #[.agg #[.int .i64 0, .int .i64 0, .int .i64 0, .int .i64 0, .int .i64 0], .int .i64 80]) ∧ Below W.heap.size W w' := fun W => rplan_no (N : Int) W (by omega) (by omega) hok
              have KP := hide kp
              clear kp hok
              go_upto_region 13 with (go_at_call 18; refine (KP.out _).mono ?_; rintro e V1 ⟨rfl, hB1⟩; have HB1 := hide hB1; clear hB1)
              have hB2 : Below wr.heap.size wr (V1.alloc (.cells #[.int .i64 0, .int .i64 0, .int .i64 0, .int .i64 0, .int .i64 0] 37)) := HB1.out.alloc HB1.out.size _
              have hk2 := HK2.out.below hB2
              have b3 : (V1.alloc (.cells #[.int .i64 0, .int .i64 0, .int .i64 0, .int .i64 0, .int .i64 0] 37)).cell? ⟨g1, 3, none⟩ = some (.bool rt) := cell8 hk2.box 3
              have HK3 := hide hk2
              generalize V1.alloc (.cells #[.int .i64 0, .int .i64 0, .int .i64 0, .int .i64 0, .int .i64 0] 37) = V2 at *
              clear hB2 hk2 b0
              cases rt with
              | false =>
                go_wp2
                go_ret
                obtain ⟨bs, o1, o2, o3⟩ := HK3.out.own
                exact ⟨N, bs, o2, o3, hN, .inr ⟨g, rfl, o1, HK3.out.nw⟩, HK3.out.bel⟩
              | true =>
                go_wp2
                go_ret
                obtain ⟨bs, o1, o2, o3⟩ := HK3.out.own
                exact ⟨N, bs, o2, o3, hN, .inr ⟨g, rfl, o1, HK3.out.nw⟩, HK3.out.bel⟩
end Go.Proofs.Ytmljacjbpcgijaa
namespace Go.Proofs.Ytmljacjbpcgijaa
open Go.RowKit Go.Shelf
set_option linter.unusedVariables false

section
variable {w : World} {b : Nat} {L : Lay} {σ : St}
theorem infoArm2 : ∃ i, Try.prog.info? 35 = some i ∧ i.zero = some (.agg #[.int .i64 0, .slice none 0 0]) ∧ i.size = 2 ∧ i.bytes = 32 := by
  have h : (Try.prog.info? 35).map (fun i => (i.zero, i.size, i.bytes)) = some (some (.agg #[.int .i64 0, .slice none 0 0]), 2, 32) := by kernel_rfl
  obtain ⟨i, h1, h2⟩ := Option.map_eq_some_iff.1 h
  simp only [Prod.mk.injEq] at h2
  exact ⟨i, h1, h2.1, h2.2.1, h2.2.2⟩
theorem infoInt2 : ∃ i, Try.prog.info? 3 = some i ∧ i.zero = some (.int .i64 0) ∧ i.size = 1 ∧ i.bytes = 8 := by
  have h : (Try.prog.info? 3).map (fun i => (i.zero, i.size, i.bytes)) = some (some (.int .i64 0), 1, 8) := by kernel_rfl
  obtain ⟨i, h1, h2⟩ := Option.map_eq_some_iff.1 h
  simp only [Prod.mk.injEq] at h2
  exact ⟨i, h1, h2.1, h2.2.1, h2.2.2⟩
theorem cut_ints (g m cap : Nat) (hm : m ≤ cap) (w : World) : (Instr.sliceAt 25 (.slice (some ⟨g, 0, none⟩) m cap) none (some (.int .i64 (m : Int))) none).run Try.prog w = .ok (.slice (some ⟨g, 0, none⟩) m cap) w := by
  obtain ⟨i, h1, _⟩ := infoInt2
  simp [Instr.sliceAt, Instr.slice, Sem.run_bind, run_underlying Try.underlying25, Instr.sliceBounds, Instr.sliceBound, asIntOf, sizeOf, typeInfo, h1, Addr.add_mid, hm]
theorem slice_arm (X : List Value) (w : World) (hx : X.length = 2) : (Instr.buildSlice 55 1 #[(0, .agg X.toArray)]).run Try.prog w = .ok (.slice (some ⟨w.heap.size, 0, none⟩) 1 1) (w.alloc (.cells X.toArray 35)) := by
  obtain ⟨it, hi, hz, h2, _⟩ := infoArm2
  refine run_buildSlice w _ 35 1 _ X.toArray it (.agg #[.int .i64 0, .slice none 0 0]) armSlice hi hz (by rw [h2]; decide) (by rw [h2]; decide) ?_
  rw [h2]
  have := Great.fill_whole (s := 2) (by decide) [.agg X.toArray] ((Array.range (1 * 2)).map ((Value.agg #[.int .i64 0, .slice none 0 0]).cells[· % (Value.agg #[.int .i64 0, .slice none 0 0]).cells.size]!)) (by simp [Value.cells, hx]) (by simp)
  simpa [Value.cells] using this
theorem wp_slice_arm {o : Oper} {a : Act} {w : World} {K : Act → World → Prop} {Q : Exit → Act → World → Prop} (x : Operand) (ho : o.op = .buildSlice 55 1 #[(0, x)]) (X : List Value) (hx : a.eval x = .agg X.toArray) (hl : X.length = 2)
    (h : K (a.put o.dst (.slice (some ⟨w.heap.size, 0, none⟩) 1 1)) (w.alloc (.cells X.toArray 35))) : o.wp Try.prog a w K Q := by
  have hr := slice_arm X w hl
  unfold Oper.wp execOp
  simp only [ho, Sem.run_bind, List.map_toArray, List.map_cons, List.map_nil, hx, hr, Result.andThen_ok]
  exact h
set_option maxRecDepth 100000 in
/-- A list of ints of its own. -/
theorem pcloneI (g m cp : Nat) (kp : List Nat) (w : World) (hm : kp.length = m) (hm1 : 1 ≤ m) (hn : ∀ j k : Nat, kp[j]? = some k → w.cell? ⟨g, j, none⟩ = some (.int .i64 (k : Int))) (hms : m ≤ 65536) :
    Calls Try.prog 25 #[.slice (some ⟨g, 0, none⟩) m cp] w fun e w' => ∃ gn cn, e = .returned (.slice (some ⟨gn, 0, none⟩) m cn) ∧ w.heap.size ≤ gn ∧ (∃ c, w'.heap[gn]? = some (.cells c 3 (0, 0))) ∧ (∀ j k : Nat, kp[j]? = some k → w'.cell? ⟨gn, j, none⟩ = some (.int .i64 (k : Int))) ∧ Below w.heap.size w w' := by
  obtain ⟨it, hit, hz, h65, h72⟩ := infoInt2
  obtain ⟨news, hnews⟩ : ∃ news, news = kp.map (fun k : Nat => Value.int .i64 (k : Int)) := ⟨_, rfl⟩
  have hl : news.length = m * 1 := by rw [hnews, List.length_map, hm, Nat.mul_one]
  have hA : Below w.heap.size w (w.alloc (.cells #[] 3)) := (Below.refl _ w).alloc (Nat.le_refl _) _
  have ho : (w.alloc (.cells #[] 3)).ownsRow 0 3 1 (.slice (some ⟨w.heap.size, 0, none⟩) 0 0) 0 [] := ⟨rfl, .inr ⟨w.heap.size, 0, #[], rfl, Nat.zero_le _, heapNew w _, Nat.le_refl _, Nat.zero_le _, rfl, rfl⟩⟩
  have hn' : ∀ j u, news[j]? = some u → (w.alloc (.cells #[] 3)).cell? ((⟨g, 0, none⟩ : Addr).add j) = some u := fun j u hu => by
    rw [hnews, List.getElem?_map] at hu
    obtain ⟨k, hk, rfl⟩ := Option.map_eq_some_iff.1 hu
    rw [Addr.add_mid, Nat.zero_add]
    exact (hA.cell (World.block_lt_of_cell? _ _ (hn j k hk))).trans (hn j k hk)
  have h1 : ∀ u ∈ news, u.oneCell' = true := fun u hu => by
    rw [hnews] at hu
    obtain ⟨k, _, rfl⟩ := List.mem_map.1 hu
    rfl
  have hbs : (Instr.buildSlice 25 0 #[]).run Try.prog w = .ok (.slice (some ⟨w.heap.size, 0, none⟩) 0 0) (w.alloc (.cells #[] 3)) := by
    simp [Instr.buildSlice, run_underlying Try.underlying25, sizeOf, typeInfo, hit, Instr.fill, newRow]
    rw [show Array.map (fun (_ : Nat) => (default : Value)) (Array.range 0) = #[] from Array.eq_empty_of_size_eq_zero (by simp)]
  have hq : (binOp .eql 25 (.slice (some ⟨g, 0, none⟩) m cp) (.slice none 0 0)).run Try.prog w = .ok (.bool false) w := by
    have h : ∀ d : Nat, (Op.equalIn (d + 1) 25 (.slice (some ⟨g, 0, none⟩) m cp) (.slice none 0 0)).run Try.prog w = .ok false w := fun d => by
      simp [Op.equalIn, run_underlying Try.underlying25]
    simp only [binOp]
    simp [Op.equal, Op.maxDepth, h 9999]
  have HA := hide hA
  have HO := hide ho
  have HN := hide hn'
  have HM := hide hm
  have HNW := hide hnews
  clear hA ho hn hn' hm hnews
  go_enter Try.func25, Try.ntmps25
  go_wp2_with (at_builtin; refine wpList_append_own_at _ rfl _ _ 25 rfl 0 3 it (.int .i64 0) 1 8 Try.underlying25 hit hz h65 h72 (by rfl) (by decide) (.slice (some ⟨w.heap.size, 0, none⟩) 0 0) 0 [] rfl HO.out ⟨g, 0, none⟩ m cp news rfl hl HN.out h1 (by unfold maxLen; omega) (by omega) (Nat.zero_le _) ?_; intro v1 x1 ho2 hg2 hnl hat; go_frame)
  go_ret
  rw [Nat.zero_add, List.nil_append] at ho2
  rcases ho2.2 with ⟨rfl, h0⟩ | ⟨gn, cn, cur, rfl, q1, q2, q3, q4, q5, q6⟩
  · omega
  · have hgn : w.heap.size ≤ gn := by rcases hat with e | e <;> cases e <;> simp
    refine ⟨gn, cn, rfl, hgn, ⟨cur, q2⟩, fun j k hj => ?_, ?_⟩
    · rw [cell8 q2]
      have h9 : (cur.toList.take (m * 1))[j]? = some (.int .i64 (k : Int)) := by rw [q6, HNW.out, List.getElem?_map, hj]; rfl
      have hjm : j < m := by have h8 := (List.getElem?_eq_some_iff.1 hj).1; have h7 := HM.out; omega
      rw [List.getElem?_take, if_pos (by omega)] at h9
      simpa using h9
    · exact ⟨hg2.os.trans HA.out.os, hg2.tape.trans HA.out.tape, hg2.output.trans HA.out.output, Nat.le_trans HA.out.size hg2.size, fun k hk => (hg2.block k (Nat.lt_of_lt_of_le hk HA.out.size) (fun e => by simp [Value.ownBlock] at e; omega)).trans (HA.out.block k hk)⟩
/-- A loss waits. -/
theorem DevL.armed {w' : World} {v8 kv : Value} {gk af : Nat} {kp : List Nat} (h : DevL w b L σ) (hb : w'.heap[b]? = some (.cells (devC b { L with av := v8 } { σ with arms := [(af, kp)] }) 57 (0, 0))) (hrow : w'.ownsRow 0 35 2 v8 1 [.int .i64 (af : Int), kv])
    (hkeep : KeepAt w' (fun k => k = gk) kv kp) (hgk : ∃ c, w'.heap[gk]? = some (.cells c 3 (0, 0))) (hk : ∀ k, k < w.heap.size → k ≠ b → L.av.ownBlock ≠ some k → w'.heap[k]? = w.heap[k]?) :
    DevL w' b { L with av := v8, KB := fun k => k = gk } { σ with arms := [(af, kp)] } := by
  have hs : ∀ (k : Nat) (c : Array Value) t fr, w.heap[k]? = some (Obj.cells c t fr) → t ≠ 57 → t ≠ 35 → w'.heap[k]? = w.heap[k]? := fun k c t fr h1 h2 h3 => hk k (lt_of_heap h1) (ne_ty h1 h.dev h2) (fun e => by obtain ⟨c', hc'⟩ := h.av_row e; exact ne_ty h1 hc' h3 rfl)
  have hm : ∀ (k : Nat) es q, w.heap[k]? = some (Obj.map es q) → w'.heap[k]? = w.heap[k]? := fun k es q h1 => hk k (lt_of_heap h1) (ne_map h.dev h1).symm (fun e => by obtain ⟨c', hc'⟩ := h.av_row e; exact ne_map hc' h1 rfl)
  obtain ⟨e1, k1, hob⟩ := h.old.block
  obtain ⟨e2, k2, hfb⟩ := h.flm.block
  refine ⟨hb, (hs _ _ _ _ h.seen (by decide) (by decide)).trans h.seen, h.old.of_block (hm _ _ _ hob), h.flm.of_block (hm _ _ _ hfb),
    fun i hi => (h.pasts i hi).keep (hs _ _ _ _ (h.pasts i hi).1 (by decide) (by decide)) (fun g' hg' => ?_), h.pne, h.rne, h.mne, ⟨[kv], rfl, hrow, fun i k a h1 h2 => ?_⟩, fun k hkb => ?_⟩
  · obtain ⟨c, hc⟩ := (h.pasts i hi).row hg'
    exact hs _ _ _ _ hc (by decide) (by decide)
  · cases i with
    | zero => cases h1; cases h2; exact hkeep
    | succ i => simp at h1
  · subst hkb; exact hgk
set_option maxRecDepth 100000 in
set_option maxHeartbeats 400000 in
/-- Arm of one loss. -/
theorem parm_one {af ga gk m ck : Nat} {kp : List Nat} (h : DevL w b L σ) (hok : σ.Ok) (ho : σ.off = false) (harm : σ.arms = []) (haf : 1 ≤ af) (hga : w.heap[ga]? = some (.cells #[.int .i64 (af : Int), .slice (some ⟨gk, 0, none⟩) m ck] 35 (0, 0)))
    (hkl : kp.length = m) (hm1 : 1 ≤ m) (hmn : m ≤ σ.n) (hmc : m ≤ ck) (hk : SlN w (some ⟨gk, 0, none⟩) kp) (hav : ¬ L.av.ownBlock = some ga) :
    Calls Try.prog 8 #[.pointer (some ⟨b, 0, none⟩), .slice (some ⟨ga, 0, none⟩) 1 1] w fun e w' => e = .returned (.int .i64 0) ∧ ∃ L', DevL w' b L' { σ with arms := [(af, kp)] } ∧ (∀ k, Foot b L' { σ with arms := [(af, kp)] } k → Foot b L σ k ∨ w.heap.size ≤ k) ∧ Gr (Foot b L σ) w w' ∧ L'.N ≤ L.N := by
  have hmx := hok.max
  have ks := pstate_any h
  rw [ho] at ks
  simp only [Bool.false_eq_true, if_false] at ks
  obtain ⟨ia, hia, hiz, his, hib⟩ := infoArm2
  have hav0 : w.ownsRow 0 35 2 L.av 0 [] := by
    obtain ⟨ks', hl', ho', _⟩ := h.arms
    rw [harm] at hl' ho'
    have : ks' = [] := List.eq_nil_of_length_eq_zero (by simpa using hl')
    subst this
    exact ho'
  obtain ⟨avp, avc, hava⟩ := own_slice hav0
  have hkc : ∀ j k : Nat, kp[j]? = some k → w.cell? ⟨gk, j, none⟩ = some (.int .i64 (k : Int)) := fun j k hj => by
    obtain ⟨g, o, e, h1, _⟩ := hk.at hj
    cases e
    rw [Nat.zero_add] at h1
    exact h1
  have km : ∀ W : World, Below w.heap.size w W → Calls Try.prog 24 #[.slice (some ⟨gk, 0, none⟩) m ck] W fun e w' => e = .returned (.bool true) ∧ w' = W := fun W hB => by
    have h5 := pmay_any (w := W) ck (hk.keep (fun k c f h1 => hB.block k (lt_of_heap h1))) (by omega)
    rwa [hkl] at h5
  have kc : ∀ W : World, Below w.heap.size w W → Calls Try.prog 25 #[.slice (some ⟨gk, 0, none⟩) m ck] W fun e w' => ∃ gn cn, e = .returned (.slice (some ⟨gn, 0, none⟩) m cn) ∧ W.heap.size ≤ gn ∧ (∃ c, w'.heap[gn]? = some (.cells c 3 (0, 0))) ∧ (∀ j k : Nat, kp[j]? = some k → w'.cell? ⟨gn, j, none⟩ = some (.int .i64 (k : Int))) ∧ Below W.heap.size W w' := fun W hB =>
    pcloneI gk m ck kp W hkl hm1 (fun j k hj => (hB.cell (World.block_lt_of_cell? _ _ (hkc j k hj))).trans (hkc j k hj)) (by omega)
  have fx : ∀ W : World, Below w.heap.size w W → W.cell? ⟨ga, 0, none⟩ = some (.int .i64 (af : Int)) ∧ W.cell? ⟨ga, 1, none⟩ = some (.slice (some ⟨gk, 0, none⟩) m ck) ∧ W.cell? ⟨b, 5, none⟩ = some L.av ∧ W.cell? ⟨b, 1, none⟩ = some (.slice (some ⟨L.sb, 0, none⟩) σ.n L.cp) := fun W hB => by
    have e1 := (hB.block ga (lt_of_heap hga)).trans hga
    have e2 := (hB.block b h.lt).trans h.dev
    exact ⟨cell8 e1 0, cell8 e1 1, cell8 e2 5, cell8 e2 1⟩
  have ix := fun Y => index_arm ga 1 1 (by omega) Y
  have HD := hide h
  have HAV0 := hide hav0
  have HAVA := hide hava
  have KS := hide ks
  have KM := hide km
  have KC := hide kc
  have FX := hide fx
  have HKL := hide hkl
  have HK := hide hk
  have afI : ¬ (af : Int) < 1 := by omega
  have mI : (m : Int) ≤ (σ.n : Int) := by omega
  clear h ks km kc fx hkl hk hok ho harm hkc hga hav0 hava hav
  go_enter Try.func8, Try.ntmps8
  go_wp2_with (go_at_call 23; refine (KS.out).mono ?_; rintro e w' ⟨rfl, hw⟩; obtain rfl := hw.symm)
  go_loopw [18] (fun iv wr => (iv = .int .i64 0 ∨ iv = .int .i64 1) ∧ Below w.heap.size w wr) (fun iv _ => (1 - (intOf iv).toNat))
  case atStart => exact ⟨.inl rfl, Below.refl _ _⟩
  case round =>
    obtain ⟨rfl | rfl, hB⟩ := hrel
    · obtain ⟨f0, f1, f5, f6⟩ := FX.out wr hB
      have hB1 : Below w.heap.size w (wr.alloc (.cells #[.int .i64 (af : Int), .slice (some ⟨gk, 0, none⟩) m ck] 35)) := hB.alloc hB.size _
      have HB1 := hide hB1
      clear hB hB1
      go_wp2_with (go_at_call 24; refine (KM.out _ ?hx).mono ?_; (case hx => exact HB1.out); rintro e w' ⟨rfl, hw⟩; obtain rfl := hw.symm)
      go_roundw
      case rel => exact ⟨.inr rfl, HB1.out⟩
      case measure => simp [intOf]
    · obtain ⟨f0, f1, f5, f6⟩ := FX.out wr hB
      rw [HAVA.out] at f5
      have HB := hide hB
      clear hB
      go_wp2_with (fail)
      go_loopw [43] (fun iv wx => (iv = .int .i64 0 ∧ Below w.heap.size w wx) ∨ (iv = .int .i64 1 ∧ ∃ L', DevL wx b L' { σ with arms := [(af, kp)] } ∧ (∀ k, Foot b L' { σ with arms := [(af, kp)] } k → Foot b L σ k ∨ w.heap.size ≤ k) ∧ Gr (Foot b L σ) w wx ∧ L'.N ≤ L.N)) (fun iv _ => (1 - (intOf iv).toNat))
      case atStart => exact .inl ⟨rfl, HB.out⟩
      case round =>
        rcases hrel with ⟨rfl, hB⟩ | ⟨rfl, hF⟩
        · obtain ⟨f0, f1, f5x, f6x⟩ := FX.out wr hB
          have hB1 : Below w.heap.size w (wr.alloc (.cells #[.int .i64 (af : Int), .slice (some ⟨gk, 0, none⟩) m ck] 35)) := hB.alloc hB.size _
          obtain ⟨_, _, g5, g6⟩ := FX.out _ hB1
          have ha1 := heapNew wr (.cells #[.int .i64 (af : Int), .slice (some ⟨gk, 0, none⟩) m ck] 35)
          have s15 : (wr.alloc (.cells #[.int .i64 (af : Int), .slice (some ⟨gk, 0, none⟩) m ck] 35)).drew.cell? ⟨wr.heap.size, 1, none⟩ = some (.slice (some ⟨gk, 0, none⟩) m ck) ∧ (wr.alloc (.cells #[.int .i64 (af : Int), .slice (some ⟨gk, 0, none⟩) m ck] 35)).drew.cell? ⟨b, 1, none⟩ = some (.slice (some ⟨L.sb, 0, none⟩) σ.n L.cp) := ⟨cell8 (w := (wr.alloc (.cells #[.int .i64 (af : Int), .slice (some ⟨gk, 0, none⟩) m ck] 35)).drew) ha1 1, g6⟩
          have S15 := hide s15
          have HB1 := hide hB1
          have HA1 := hide ha1
          have HBW := hide hB
          clear hB hB1 ha1 s15 g5 g6 f5x f6x
          go_wp2_with (fail)
          refine wp_region_held_drew (S := fun Y => Y.cell? ⟨wr.heap.size, 1, none⟩ = some (.slice (some ⟨gk, 0, none⟩) m ck) ∧ Y.cell? ⟨b, 1, none⟩ = some (.slice (some ⟨L.sb, 0, none⟩) σ.n L.cp)) (by kernel_rfl) S15.out (fun hS => ?_)
          refine wpAnyH_take (i := 0) (v := (.pointer (some ⟨wr.heap.size, 1, none⟩))) rfl (by kernel_rfl) (by kernel_rfl) (by kernel_rfl) (fun _ _ _ h => h) (Or.inl ⟨by kernel_rfl, fun w' hw => by (go_simp)⟩) hS ?_
          refine wpAnyH_take (i := 1) (v := (.slice (some ⟨gk, 0, none⟩) m ck)) rfl (by kernel_rfl) (by kernel_rfl) (by kernel_rfl) (fun _ _ _ h => h) (Or.inl ⟨by kernel_rfl, fun w' hw => by (obtain ⟨z0, z1⟩ := hw; go_simp)⟩) hS ?_
          refine wpAnyH_take (i := 2) (v := (.pointer (some ⟨wr.heap.size, 1, none⟩))) rfl (by kernel_rfl) (by kernel_rfl) (by kernel_rfl) (fun _ _ _ h => h) (Or.inl ⟨by kernel_rfl, fun w' hw => by (go_simp)⟩) hS ?_
          refine wpAnyH_take (i := 3) (v := (.slice (some ⟨gk, 0, none⟩) m ck)) rfl (by kernel_rfl) (by kernel_rfl) (by kernel_rfl) (fun _ _ _ h => h) (Or.inl ⟨by kernel_rfl, fun w' hw => by (obtain ⟨z0, z1⟩ := hw; go_simp)⟩) hS ?_
          refine wpAnyH_take (i := 4) (v := (.int .i64 (m : Int))) rfl (by kernel_rfl) (by kernel_rfl) (by kernel_rfl) (fun _ _ _ h => h) (Or.inl ⟨by kernel_rfl, fun w' hw => by (go_simp)⟩) hS ?_
          refine wpAnyH_take (i := 5) (v := (.pointer (some ⟨b, 0, none⟩))) rfl (by kernel_rfl) (by kernel_rfl) (by kernel_rfl) (fun _ _ _ h => h) (Or.inl ⟨by kernel_rfl, fun w' hw => by (go_simp)⟩) hS ?_
          refine wpAnyH_take (i := 6) (v := (.pointer (some ⟨b, 0, none⟩))) rfl (by kernel_rfl) (by kernel_rfl) (by kernel_rfl) (fun _ _ _ h => h) (Or.inl ⟨by kernel_rfl, fun w' hw => by (go_simp)⟩) hS ?_
          refine wpAnyH_take (i := 7) (v := (.pointer (some ⟨b, 1, none⟩))) rfl (by kernel_rfl) (by kernel_rfl) (by kernel_rfl) (fun _ _ _ h => h) (Or.inl ⟨by kernel_rfl, fun w' hw => by (go_simp)⟩) hS ?_
          refine wpAnyH_take (i := 8) (v := (.slice (some ⟨L.sb, 0, none⟩) σ.n L.cp)) rfl (by kernel_rfl) (by kernel_rfl) (by kernel_rfl) (fun _ _ _ h => h) (Or.inl ⟨by kernel_rfl, fun w' hw => by (obtain ⟨z0, z1⟩ := hw; go_simp)⟩) hS ?_
          refine wpAnyH_take (i := 9) (v := (.int .i64 (σ.n : Int))) rfl (by kernel_rfl) (by kernel_rfl) (by kernel_rfl) (fun _ _ _ h => h) (Or.inl ⟨by kernel_rfl, fun w' hw => by (go_simp)⟩) hS ?_
          refine wpAnyH_take (i := 10) (v := (.int .i64 (m : Int))) rfl (by kernel_rfl) (by kernel_rfl) (by kernel_rfl) (fun _ _ _ h => h) (Or.inl ⟨by kernel_rfl, fun w' hw => by (go_simp; intro hx; omega)⟩) hS ?_
          refine wpAnyH_take (i := 11) (v := (.slice (some ⟨gk, 0, none⟩) m ck)) rfl (by kernel_rfl) (by kernel_rfl) (by kernel_rfl) (fun _ _ _ h => h) (Or.inl ⟨by kernel_rfl, fun w' hw => by (have e := cut_ints gk m ck hmc w'; go_simp)⟩) hS ?_
          refine wpAnyH_take (i := 12) (v := (.slice (some ⟨gk, 0, none⟩) m ck)) rfl (by kernel_rfl) (by kernel_rfl) (by kernel_rfl) (fun _ _ _ h => h) (Or.inl ⟨by kernel_rfl, fun w' hw => by (go_simp)⟩) hS ?_
          refine wpAnyH_done (by kernel_rfl) ?_ _
          simp only [Act.put, List.getElem_toArray, List.getElem_cons_zero, List.getElem_cons_succ, List.setIfInBounds_toArray, List.set_cons_zero, List.set_cons_succ]
          go_wp2_with (fail)
          have hw0 : Below w.heap.size w (wr.alloc (.cells #[.int .i64 (af : Int), .slice (some ⟨gk, 0, none⟩) m ck] 35)).drew := HB1.out.drew
          have ha0 : (wr.alloc (.cells #[.int .i64 (af : Int), .slice (some ⟨gk, 0, none⟩) m ck] 35)).drew.heap[wr.heap.size]? = some (.cells #[.int .i64 (af : Int), .slice (some ⟨gk, 0, none⟩) m ck] 35 (0, 0)) := HA1.out
          have hsz0 : wr.heap.size < (wr.alloc (.cells #[.int .i64 (af : Int), .slice (some ⟨gk, 0, none⟩) m ck] 35)).drew.heap.size := lt_of_heap ha0
          generalize (wr.alloc (.cells #[.int .i64 (af : Int), .slice (some ⟨gk, 0, none⟩) m ck] 35)).drew = W0 at *
          have hb0 := (hw0.block b HD.out.lt).trans HD.out.dev
          have s16 : W0.drew.cell? ⟨b, 5, none⟩ = some L.av ∧ W0.drew.cell? ⟨wr.heap.size, 0, none⟩ = some (.int .i64 (af : Int)) := ⟨cell8 (w := W0.drew) hb0 5, cell8 (w := W0.drew) ha0 0⟩
          have S16 := hide s16
          have HW0 := hide (hw0.drew : Below w.heap.size w W0.drew)
          have HB0 := hide hb0
          have HA0 := hide ha0
          have arm5 : ∀ (W4 : World) (gn cn : Nat), Below W0.drew.heap.size W0.drew W4 → ((W4.alloc (.cells #[.int .i64 (af : Int), .slice (some ⟨gn, 0, none⟩) m cn] 35)).cell? ⟨b, 5, none⟩ = some L.av ∧ (W4.alloc (.cells #[.int .i64 (af : Int), .slice (some ⟨gn, 0, none⟩) m cn] 35)).cell? ⟨wr.heap.size, 0, none⟩ = some (.int .i64 (af : Int))) ∧ (W4.alloc (.cells #[.int .i64 (af : Int), .slice (some ⟨gn, 0, none⟩) m cn] 35)).ownsRow 0 35 2 L.av 0 [] ∧ (∀ (j : Nat) (u : Value), ([.int .i64 (af : Int), .slice (some ⟨gn, 0, none⟩) m cn] : List Value)[j]? = some u → (W4.alloc (.cells #[.int .i64 (af : Int), .slice (some ⟨gn, 0, none⟩) m cn] 35)).cell? ((⟨W4.heap.size, 0, none⟩ : Addr).add j) = some u) ∧ (∀ W8 : World, (W4.alloc (.cells #[.int .i64 (af : Int), .slice (some ⟨gn, 0, none⟩) m cn] 35)).grownBy W8 L.av.ownBlock → W8.cell? ⟨b, 5, none⟩ = some L.av ∧ W8.frozen? ⟨b, 5, none⟩ = false ∧ W8.cell? ⟨wr.heap.size, 0, none⟩ = some (.int .i64 (af : Int))) := fun W4 gn cn hB4 => by
            have e4 : W0.drew.heap.size ≤ W4.heap.size := hB4.size
            have hB5 : Below W0.drew.heap.size W0.drew (W4.alloc (.cells #[.int .i64 (af : Int), .slice (some ⟨gn, 0, none⟩) m cn] 35)) := hB4.alloc e4 _
            have x1 : (W4.alloc (.cells #[.int .i64 (af : Int), .slice (some ⟨gn, 0, none⟩) m cn] 35)).heap[b]? = _ := (hB5.block b (lt_of_heap hb0)).trans hb0
            have x2 : (W4.alloc (.cells #[.int .i64 (af : Int), .slice (some ⟨gn, 0, none⟩) m cn] 35)).heap[wr.heap.size]? = _ := (hB5.block _ (lt_of_heap ha0)).trans ha0
            have hlt : ∀ g, L.av.ownBlock = some g → g < w.heap.size := fun g hg => by obtain ⟨c', hc'⟩ := own_type HAV0.out hg; exact lt_of_heap hc'
            refine ⟨⟨cell8 x1 5, cell8 x2 0⟩, ownsRow_of_block HAV0.out (fun g hg => (hB5.block g (Nat.lt_of_lt_of_le (hlt g hg) hw0.size)).trans (hw0.block g (hlt g hg))), fun j u hu => ?_, fun W8 hg8 => ?_⟩
            · have h := range_all (heapNew W4 (.cells ([.int .i64 (af : Int), .slice (some ⟨gn, 0, none⟩) m cn] : List Value).toArray 35)) j u hu
              rw [Addr.add_mid]; exact h
            · have y1 := (hg8.block b (lt_of_heap x1) (fun e => by obtain ⟨c', hc'⟩ := own_type HAV0.out e.symm; exact ne_ty hc' HD.out.dev (by decide) rfl)).trans x1
              have y2 := (hg8.block _ (lt_of_heap x2) (fun e => by have := hlt _ e.symm; have := HBW.out.size; omega)).trans x2
              exact ⟨cell8 y1 5, froz8 y1 5, cell8 y2 0⟩
          have ARM5 := hide arm5
          clear hw0 hb0 ha0 s16 arm5 HA1 HB1 S15
          refine wp_region_early 14 (fun Y => Y.cell? ⟨b, 5, none⟩ = some L.av ∧ Y.cell? ⟨wr.heap.size, 0, none⟩ = some (.int .i64 (af : Int))) (by kernel_rfl) S16.out (fun hS => ?_)
          refine wpAnyE_take (i := 0) (v := (.pointer (some ⟨b, 0, none⟩))) rfl (by kernel_rfl) (by kernel_rfl) (by kernel_rfl) (by kernel_rfl) (fun _ _ _ h => h) (Or.inl ⟨by kernel_rfl, fun w' hw => by (go_simp)⟩) hS ?_
          refine wpAnyE_take (i := 1) (v := (.pointer (some ⟨b, 0, none⟩))) rfl (by kernel_rfl) (by kernel_rfl) (by kernel_rfl) (by kernel_rfl) (fun _ _ _ h => h) (Or.inl ⟨by kernel_rfl, fun w' hw => by (go_simp)⟩) hS ?_
          refine wpAnyE_take (i := 2) (v := (.pointer (some ⟨b, 0, none⟩))) rfl (by kernel_rfl) (by kernel_rfl) (by kernel_rfl) (by kernel_rfl) (fun _ _ _ h => h) (Or.inl ⟨by kernel_rfl, fun w' hw => by (go_simp)⟩) hS ?_
          refine wpAnyE_take (i := 3) (v := (.pointer (some ⟨b, 5, none⟩))) rfl (by kernel_rfl) (by kernel_rfl) (by kernel_rfl) (by kernel_rfl) (fun _ _ _ h => h) (Or.inl ⟨by kernel_rfl, fun w' hw => by (go_simp)⟩) hS ?_
          refine wpAnyE_take (i := 4) (v := L.av) rfl (by kernel_rfl) (by kernel_rfl) (by kernel_rfl) (by kernel_rfl) (fun _ _ _ h => h) (Or.inl ⟨by kernel_rfl, fun w' hw => by (obtain ⟨z0, z1⟩ := hw; go_simp)⟩) hS ?_
          refine wpAnyE_take (i := 5) (v := (.pointer (some ⟨wr.heap.size, 0, none⟩))) rfl (by kernel_rfl) (by kernel_rfl) (by kernel_rfl) (by kernel_rfl) (fun _ _ _ h => h) (Or.inl ⟨by kernel_rfl, fun w' hw => by (go_simp)⟩) hS ?_
          refine wpAnyE_take (i := 6) (v := (.int .i64 (af : Int))) rfl (by kernel_rfl) (by kernel_rfl) (by kernel_rfl) (by kernel_rfl) (fun _ _ _ h => h) (Or.inl ⟨by kernel_rfl, fun w' hw => by (obtain ⟨z0, z1⟩ := hw; go_simp)⟩) hS ?_
          refine wpAnyE_take (i := 7) (v := (.slice (some ⟨gk, 0, none⟩) m ck)) rfl (by kernel_rfl) (by kernel_rfl) (by kernel_rfl) (by kernel_rfl) (fun _ _ _ h => h) (Or.inl ⟨by kernel_rfl, fun w' hw => by (go_simp)⟩) hS ?_
          refine wpAnyE_do (i := 8) (by kernel_rfl) rfl (by kernel_rfl) (fun K hK => ?_)
          go_wp2_with (go_at_call 25; refine (KC.out _ ?hx).mono ?_; (case hx => exact HW0.out); rintro e W4 ⟨gn, cn, rfl, hgn, hgc, hcl, hB4⟩; have HGN := hide hgn; have HGC := hide hgc; have HCL := hide hcl; have HB4 := hide hB4; clear hgn hgc hcl hB4)
          have s4 : W4.cell? ⟨b, 5, none⟩ = some L.av ∧ W4.cell? ⟨wr.heap.size, 0, none⟩ = some (.int .i64 (af : Int)) := ⟨cell8 ((HB4.out.block b (lt_of_heap HB0.out)).trans HB0.out) 5, cell8 ((HB4.out.block _ (lt_of_heap HA0.out)).trans HA0.out) 0⟩
          refine hK.out _ _ (fun _ => s4) ?_
          clear hK K
          refine wpAnyE_take (i := 9) (v := (.agg #[.int .i64 (af : Int), .slice (some ⟨gn, 0, none⟩) m cn])) rfl (by kernel_rfl) (by kernel_rfl) (by kernel_rfl) (by kernel_rfl) (fun _ _ _ h => h) (Or.inl ⟨by kernel_rfl, fun w' hw => by (go_simp)⟩) s4 ?_
          refine wpAnyE_do (i := 10) (by kernel_rfl) rfl (by kernel_rfl) (fun K hK => ?_)
          refine wp_slice_arm (.tmp 68) (by kernel_rfl) [.int .i64 (af : Int), .slice (some ⟨gn, 0, none⟩) m cn] (by kernel_rfl) (by simp) ?_
          obtain ⟨s5, qo, qc, q8⟩ := ARM5.out W4 gn cn HB4.out
          have QO := hide qo
          have QC := hide qc
          have Q8 := hide q8
          clear qo qc q8
          refine hK.out _ _ (fun _ => s5) ?_
          clear hK K
          refine wpAnyE_do (i := 11) (by kernel_rfl) rfl (by kernel_rfl) (fun K hK => ?_)
          refine wp_append_at (.tmp 63) (.tmp 69) 55 (by kernel_rfl) 0 35 ia (.agg #[.int .i64 0, .slice none 0 0]) 2 32 armSlice hia hiz his hib (by rfl) (by decide) L.av 0 [] (by kernel_rfl) QO.out ⟨W4.heap.size, 0, none⟩ 1 1 [.int .i64 (af : Int), .slice (some ⟨gn, 0, none⟩) m cn] (by kernel_rfl) (by simp) QC.out (by simp [Value.oneCell']) (by unfold maxLen; omega) (by omega) (Nat.zero_le _) ?_
          intro v8 W8 ho8 hg8 _ hl8
          obtain ⟨r0, rf, r1⟩ := Q8.out W8 hg8
          obtain ⟨a8, c8, rfl⟩ := own_slice ho8
          have HO8 := hide ho8
          have HG8 := hide hg8
          have HL8 := hide hl8
          clear ho8 hg8 hl8
          refine hK.out _ _ (fun _ => ⟨r0, r1⟩) ?_
          clear hK K
          refine wpAnyE_do (i := 12) (by kernel_rfl) rfl (by kernel_rfl) (fun K hK => ?_)
          go_simp
          refine hK.out _ _ (fun _ => ⟨r0, r1⟩) ?_
          clear hK K
          refine wpAnyE_do (i := 13) (by kernel_rfl) rfl (by kernel_rfl) (fun K hK => ?_)
          go_simp
          refine hK.out _ _ (fun _ => ⟨r0, r1⟩) ?_
          clear hK K
          refine wpAnyE_do (i := 14) (by kernel_rfl) rfl (by kernel_rfl) (fun K hK => ?_)
          go_simp
          refine hK.out _ _ (fun h => absurd rfl h) ?_
          clear hK K
          refine wpAnyE_done (by kernel_rfl) ?_ _
          try simp only [Act.put, List.getElem_toArray, List.getElem_cons_zero, List.getElem_cons_succ, List.setIfInBounds_toArray, List.set_cons_zero, List.set_cons_succ]
          go_wp2_with (fail)
          go_roundw
          case measure => simp [intOf]
          case rel =>
            refine .inr ⟨rfl, ?_⟩
            have hw0 : Below w.heap.size w W0.drew := HW0.out
            have hB4 := HB4.out
            have e4 : W0.drew.heap.size ≤ W4.heap.size := hB4.size
            have hB5 : Below W0.drew.heap.size W0.drew (W4.alloc (.cells #[.int .i64 (af : Int), .slice (some ⟨gn, 0, none⟩) m cn] 35)) := hB4.alloc e4 _
            have hw5 : Below w.heap.size w (W4.alloc (.cells #[.int .i64 (af : Int), .slice (some ⟨gn, 0, none⟩) m cn] 35)) := hw0.trans (hB5.mono hw0.size)
            have hg8 := HG8.out
            have hlt : ∀ g, L.av.ownBlock = some g → g < w.heap.size := fun g hg => by obtain ⟨c', hc'⟩ := own_type HAV0.out hg; exact lt_of_heap hc'
            have hnb : L.av.ownBlock ≠ some b := fun e => by obtain ⟨c', hc'⟩ := own_type HAV0.out e; exact ne_ty hc' HD.out.dev (by decide) rfl
            have x1 : (W4.alloc (.cells #[.int .i64 (af : Int), .slice (some ⟨gn, 0, none⟩) m cn] 35)).heap[b]? = _ := (hw5.block b HD.out.lt).trans HD.out.dev
            have y1 : W8.heap[b]? = _ := (hg8.block b (lt_of_heap x1) (fun e => hnb e.symm)).trans x1
            have z1 := heap_set1 W8 b 5 _ _ (.slice a8 1 c8) y1
            have hgn5 : gn ≠ b ∧ L.av.ownBlock ≠ some gn ∧ gn < W4.heap.size := by
              obtain ⟨c, hc⟩ := HGC.out
              have h1 := HGN.out
              have h2 := HD.out.lt
              have h3 := hw0.size
              refine ⟨by omega, fun e => by have := hlt gn e; omega, lt_of_heap hc⟩
            have q5 : ∀ k, k < (W4.alloc (.cells #[.int .i64 (af : Int), .slice (some ⟨gn, 0, none⟩) m cn] 35)).heap.size → k ≠ b → L.av.ownBlock ≠ some k → (W8.setCell ⟨b, 5, none⟩ (.slice a8 1 c8)).heap[k]? = (W4.alloc (.cells #[.int .i64 (af : Int), .slice (some ⟨gn, 0, none⟩) m cn] 35)).heap[k]? := fun k h1 h2 h3 => (heap_set_ne _ b 5 k _ h2).trans (hg8.block k h1 (fun e => h3 e.symm))
            have hgn6 : (W8.setCell ⟨b, 5, none⟩ (.slice a8 1 c8)).heap[gn]? = W4.heap[gn]? := (q5 gn (by simp; omega) hgn5.1 hgn5.2.1).trans (Below.heap_alloc _ _ _ hgn5.2.2)
            have hown : (W8.setCell ⟨b, 5, none⟩ (.slice a8 1 c8)).ownsRow 0 35 2 (.slice a8 1 c8) 1 [.int .i64 (af : Int), .slice (some ⟨gn, 0, none⟩) m cn] := ownsRow_of_block HO8.out (fun g hg => heap_set_ne _ b 5 g _ (fun e => by
              obtain ⟨c', hc'⟩ := own_type HO8.out hg
              exact ne_ty hc' y1 (by decide) e))
            have hd := HD.out.armed (w' := W8.setCell ⟨b, 5, none⟩ (.slice a8 1 c8)) (v8 := .slice a8 1 c8) (gk := gn) (af := af) (kp := kp) (by rw [z1]; rfl) hown ⟨some ⟨gn, 0, none⟩, cn, by rw [HKL.out], .inr ⟨gn, rfl, rfl, fun j x hj => (World.cell?_of_block (a := ⟨gn, j, none⟩) hgn6).trans (HCL.out j x hj)⟩⟩ (by obtain ⟨c, hc⟩ := HGC.out; exact ⟨c, hgn6.trans hc⟩) (fun k h1 h2 h3 => (q5 k (Nat.lt_of_lt_of_le h1 hw5.size) h2 h3).trans (hw5.block k h1))
            refine ⟨_, hd, fun k hk => ?_, ?_, Nat.le_refl _⟩
            · rcases hk with r | r | r | r | r | r | r
              · exact .inl (.inl r)
              · exact .inl (.inr (.inl r))
              · exact .inl (.inr (.inr (.inl r)))
              · exact .inl (.inr (.inr (.inr (.inl r))))
              · exact .inl (.inr (.inr (.inr (.inr (.inl r)))))
              · rcases HL8.out with e | e
                · rw [e] at r; exact .inl (.inr (.inr (.inr (.inr (.inr (.inl r))))))
                · rw [e] at r; cases r; exact .inr hw5.size
              · have h1 := HGN.out
                have h3 := hw0.size
                have r : k = gn := r
                exact .inr (by omega)
            · exact ((Gr.of_below hw5 : Gr (Foot b L σ) w (W4.alloc (.cells #[.int .i64 (af : Int), .slice (some ⟨gn, 0, none⟩) m cn] 35))).trans (Gr.of_grown (X := Foot b L σ) hg8 (fun k hk => .inl (.inr (.inr (.inr (.inr (.inr (.inl hk)))))))) (fun i h => .inl h)).trans (Gr.set W8 b 5 _ (X := Foot b L σ) (.inl rfl)) (fun i h => .inl h)
        · have HF := hide hF
          clear hF
          go_wp2_with (fail)
          go_ret
          exact ⟨rfl, HF.out⟩
end
end Go.Proofs.Ytmljacjbpcgijaa
namespace Go.Proofs.Ytmljacjbpcgijaa
open Go.ChangeShapes Go.WideShapes Go.ChangeAt Go.RowKit
set_option linter.unusedVariables false

theorem own : ownKnob Try.prog.godebug = none := by kernel_rfl
theorem laidOut : laidOutB Try.prog = true := by kernel_rfl
theorem Try.bytes5 : Try.prog.bytesOf 5 = 1 := by kernel_rfl

/-- Numbers that fit a byte, as naturals. -/
theorem nats_of (zs : List Int) (h : ∀ n ∈ zs, (Lit.int .u8 n).wf = true) : ∃ bs : List Nat, zs = bs.map (fun (x : Nat) => (x : Int)) ∧ ∀ x ∈ bs, x < 256 := by
  refine ⟨zs.map Int.toNat, ?_, ?_⟩
  · rw [List.map_map]
    refine (List.map_id zs).symm.trans (List.map_congr_left fun z hz => ?_)
    have := bounds_u8 (h z hz)
    simp
    omega
  · intro x hx
    obtain ⟨z, hz, rfl⟩ := List.mem_map.1 hx
    have := bounds_u8 (h z hz)
    omega

theorem open_bytes {H : Type} {enc : TypeId × Value → H} {W : World} {a : Option Addr} {len cap : Nat} {d : DataW H} {p : List MemPlace} (h : DataW.Trod enc Try.prog W 0 (fun _ => true) true 22 (.slice a len cap) d p)
    (hz : ∀ el sp, d = .slice el sp → (el.length + sp.length) * Try.prog.bytesOf 5 ≤ reachBytes) : ∃ bs : List Nat, len = bs.length ∧ Sl W a bs ∧ bs.length ≤ 140737488351232 ∧ (a = none → cap = 0) ∧ len ≤ cap ∧ cap ≤ maxLen ∧ (d = .nil ∧ bs = [] ∨ ∃ el sp, d = .slice el sp ∧ el.length = bs.length) := by
  obtain ⟨fuel, hf⟩ := h
  rcases open_ints Try.underlying22 Try.underlying5 (by kernel_rfl) hf with ⟨hcs, _⟩ | ⟨x, l, c, zs, hcs, _, hl, hm, hzl, hx, hcell, hwz⟩
  · simp [Value.cells] at hcs
    obtain ⟨rfl, rfl, rfl⟩ := hcs
    rename_i hx0
    simp only [Prod.mk.injEq] at hx0
    exact ⟨[], rfl, .inl rfl, by simp, fun _ => rfl, Nat.le_refl _, Nat.zero_le _, .inl ⟨hx0.1, rfl⟩⟩
  · simp [Value.cells] at hcs
    obtain ⟨rfl, rfl, rfl⟩ := hcs
    simp only [Prod.mk.injEq] at hx
    obtain ⟨hd, _⟩ := hx
    have hw := hz _ _ hd
    obtain ⟨bs, rfl, hb⟩ := nats_of zs hwz
    simp only [if_true, List.length_map] at hzl
    rw [Try.bytes5] at hw
    simp only [lits, List.length_map, List.length_take, List.length_drop, reachBytes] at hw
    refine ⟨bs.take len, by rw [List.length_take]; omega, ?_, by rw [List.length_take]; omega, fun h => (by cases h), hl, hm, .inr ⟨_, _, hd, by simp [lits]⟩⟩
    by_cases h0 : len = 0
    · subst h0; exact .inl (by simp)
    · obtain ⟨b, off, spot⟩ := x
      have hc := hcell 0 (by simp; omega)
      have hspot : spot = none := by simpa [Addr.add] using World.cell?_spot hc
      subst hspot
      refine .inr ⟨b, off, rfl, ?_, fun i y hy => ?_⟩
      · exact World.block_lt_of_cell? _ _ hc
      · have hi : i < len := by
          have := (List.getElem?_eq_some_iff.1 hy).1
          rw [List.length_take] at this
          omega
        rw [List.getElem?_take, if_pos hi] at hy
        have h1 := hcell i (by simp; omega)
        refine ⟨?_, hb y (List.mem_of_getElem? hy)⟩
        have e : (⟨b, off, none⟩ : Addr).add i = ⟨b, off + i, none⟩ := by simp [Addr.add]
        rw [e] at h1
        rw [h1, List.getD_eq_getElem?_getD, List.getElem?_map, hy]
        rfl
theorem open_bytes_up {H : Type} {enc : TypeId × Value → H} {W : World} {a : Option Addr} {len cap : Nat} {d : DataW H} {p : List MemPlace} (h : DataW.Trod enc Try.prog W 0 (fun _ => true) true 22 (.slice a len cap) d p) : ∃ bs : List Nat, len = bs.length ∧ Sl W a bs ∧ bs.length ≤ maxLen ∧ (a = none → cap = 0) ∧ len ≤ cap ∧ cap ≤ maxLen ∧ (d = .nil ∧ bs = [] ∨ ∃ el sp, d = .slice el sp ∧ el.length = bs.length) := by
  obtain ⟨fuel, hf⟩ := h
  rcases open_ints Try.underlying22 Try.underlying5 (by kernel_rfl) hf with ⟨hcs, _⟩ | ⟨x, l, c, zs, hcs, _, hl, hm, hzl, hx, hcell, hwz⟩
  · simp [Value.cells] at hcs
    obtain ⟨rfl, rfl, rfl⟩ := hcs
    rename_i hx0
    simp only [Prod.mk.injEq] at hx0
    exact ⟨[], rfl, .inl rfl, by simp, fun _ => rfl, Nat.le_refl _, Nat.zero_le _, .inl ⟨hx0.1, rfl⟩⟩
  · simp [Value.cells] at hcs
    obtain ⟨rfl, rfl, rfl⟩ := hcs
    simp only [Prod.mk.injEq] at hx
    obtain ⟨hd, _⟩ := hx
    obtain ⟨bs, rfl, hb⟩ := nats_of zs hwz
    simp only [if_true, List.length_map] at hzl
    refine ⟨bs.take len, by rw [List.length_take]; omega, ?_, by rw [List.length_take]; omega, fun h => (by cases h), hl, hm, .inr ⟨_, _, hd, by simp [lits]⟩⟩
    by_cases h0 : len = 0
    · subst h0; exact .inl (by simp)
    · obtain ⟨b, off, spot⟩ := x
      have hc := hcell 0 (by simp; omega)
      have hspot : spot = none := by simpa [Addr.add] using World.cell?_spot hc
      subst hspot
      refine .inr ⟨b, off, rfl, ?_, fun i y hy => ?_⟩
      · exact World.block_lt_of_cell? _ _ hc
      · have hi : i < len := by
          have := (List.getElem?_eq_some_iff.1 hy).1
          rw [List.length_take] at this
          omega
        rw [List.getElem?_take, if_pos hi] at hy
        have h1 := hcell i (by simp; omega)
        refine ⟨?_, hb y (List.mem_of_getElem? hy)⟩
        have e : (⟨b, off, none⟩ : Addr).add i = ⟨b, off + i, none⟩ := by simp [Addr.add]
        rw [e] at h1
        rw [h1, List.getD_eq_getElem?_getD, List.getElem?_map, hy]
        rfl
theorem open_nums_up {H : Type} {enc : TypeId × Value → H} {W : World} {a : Option Addr} {len cap : Nat} {d : DataW H} {p : List MemPlace} (h : DataW.Trod enc Try.prog W 0 (fun _ => true) true 25 (.slice a len cap) d p) :
    ∃ zs : List Int, len = zs.length ∧ SlI W a zs ∧ (∀ z ∈ zs, -9223372036854775808 ≤ z ∧ z ≤ 9223372036854775807) ∧ (d = .nil ∧ zs = [] ∨ ∃ el sp, d = .slice el sp ∧ el.length = zs.length) := by
  obtain ⟨fuel, hf⟩ := h
  rcases open_ints Try.underlying25 Try.underlying3 (by kernel_rfl) hf with ⟨hcs, hx0⟩ | ⟨x, l, c, zs, hcs, _, hl, hm, hzl, hx, hcell, hwz⟩
  · simp [Value.cells] at hcs
    obtain ⟨rfl, rfl, rfl⟩ := hcs
    simp only [Prod.mk.injEq] at hx0
    exact ⟨[], rfl, .inl rfl, by simp, .inl ⟨hx0.1, rfl⟩⟩
  · simp [Value.cells] at hcs
    obtain ⟨rfl, rfl, rfl⟩ := hcs
    simp only [Prod.mk.injEq] at hx
    obtain ⟨hd, _⟩ := hx
    simp only [if_true] at hzl
    refine ⟨zs.take len, by rw [List.length_take]; omega, ?_, fun z hz => bounds_i64 (hwz z (List.mem_of_mem_take hz)), .inr ⟨_, _, hd, by simp [lits]⟩⟩
    by_cases h0 : len = 0
    · subst h0; exact .inl (by simp)
    · obtain ⟨b, off, spot⟩ := x
      have hc := hcell 0 (by omega)
      have hspot : spot = none := by simpa [Addr.add] using World.cell?_spot hc
      subst hspot
      refine .inr ⟨b, off, rfl, World.block_lt_of_cell? _ _ hc, fun i y hy => ?_⟩
      have hi : i < len := by
        have := (List.getElem?_eq_some_iff.1 hy).1
        rw [List.length_take] at this
        omega
      rw [List.getElem?_take, if_pos hi] at hy
      have h1 := hcell i (by omega)
      have e : (⟨b, off, none⟩ : Addr).add i = ⟨b, off + i, none⟩ := by simp [Addr.add]
      rw [e] at h1
      rw [h1, List.getD_eq_getElem?_getD, hy]
      rfl

theorem bulk_pos {H : Type} (d : DataW H) : 1 ≤ Rows.uptoBulk d := by
  cases d with
  | lit l => cases l <;> simp [Rows.uptoBulk]
  | _ => simp [Rows.uptoBulk]
theorem bulk_len {H : Type} (l : List (DataW H)) : l.length ≤ Rows.uptoBulkAll l := by
  induction l with
  | nil => simp [Rows.uptoBulkAll]
  | cons d r ih =>
    have := bulk_pos d
    simp only [Rows.uptoBulkAll, List.length_cons]
    omega
/-- What the bound says of bytes that came in. -/
theorem bulk_bytes {H : Type} {d : DataW H} {bs : List Nat} (h : d = .nil ∧ bs = [] ∨ ∃ el sp, d = .slice el sp ∧ el.length = bs.length) : bs.length ≤ Rows.uptoBulk d := by
  rcases h with ⟨_, rfl⟩ | ⟨el, sp, rfl, h⟩
  · simp
  · have := bulk_len el
    simp only [Rows.uptoBulk]
    omega
theorem bulk_nums {H : Type} {d : DataW H} {zs : List Int} (h : d = .nil ∧ zs = [] ∨ ∃ el sp, d = .slice el sp ∧ el.length = zs.length) : zs.length ≤ Rows.uptoBulk d := by
  rcases h with ⟨_, rfl⟩ | ⟨el, sp, rfl, h⟩
  · simp
  · have := bulk_len el
    simp only [Rows.uptoBulk]
    omega
theorem bulk_of {H : Type} {l : List (DataW H)} (h : Rows.uptoSmall H l = true) : Rows.uptoBulkAll l ≤ 1048576 := of_decide_eq_true h

end Go.Proofs.Ytmljacjbpcgijaa
namespace Go.Proofs.Ytmljacjbpcgijaa
open Go.ChangeShapes Go.WideShapes Go.ChangeAt Go.RowKit
set_option linter.unusedVariables false

theorem gatherQ {α : Type} {Q : Nat → α → Prop} : ∀ n, (∀ i, i < n → ∃ x, Q i x) → ∃ xs : List α, xs.length = n ∧ ∀ i x, xs[i]? = some x → Q i x := by
  intro n
  induction n with
  | zero => intro _; exact ⟨[], rfl, fun i x h => by simp at h⟩
  | succ n ih =>
    intro h
    obtain ⟨xs, hl, hq⟩ := ih (fun i hi => h i (by omega))
    obtain ⟨y, hy⟩ := h n (by omega)
    refine ⟨xs ++ [y], by rw [List.length_append, hl]; rfl, fun i x hx => ?_⟩
    by_cases hi : i < xs.length
    · rw [List.getElem?_append_left hi] at hx
      exact hq i x hx
    · rw [List.getElem?_append_right (by omega)] at hx
      have hlt := (List.getElem?_eq_some_iff.1 hx).1
      simp at hlt
      have e : i - xs.length = 0 := by omega
      rw [e] at hx
      simp at hx
      subst hx
      have : i = n := by omega
      subst this
      exact hy
/-- What a row of so many cells an element holds. -/
def RowC {α : Type} (sz : Nat) (vals : α → List Value) (W : World) (a : Option Addr) (xs : List α) : Prop :=
  xs = [] ∨ ∃ b off, a = some ⟨b, off, none⟩ ∧ b < W.heap.size ∧ ∀ i x, xs[i]? = some x → ∀ j v, (vals x)[j]? = some v → W.cell? ⟨b, off + i * sz + j, none⟩ = some v
theorem RowC.below {α : Type} {sz : Nat} {vals : α → List Value} {W W' : World} {a : Option Addr} {xs : List α} (h : RowC sz vals W a xs) (hB : Below W.heap.size W W') : RowC sz vals W' a xs := by
  rcases h with h | ⟨b, off, e, hb, hc⟩
  · exact .inl h
  · exact .inr ⟨b, off, e, Nat.lt_of_lt_of_le hb hB.size, fun i x hx j v hv => (hB.cell hb).trans (hc i x hx j v hv)⟩
theorem RowC.at {α : Type} {sz : Nat} {vals : α → List Value} {W : World} {a : Option Addr} {xs : List α} (h : RowC sz vals W a xs) {i : Nat} {x : α} (hx : xs[i]? = some x) : ∃ b off, a = some ⟨b, off, none⟩ ∧ b < W.heap.size ∧ ∀ j v, (vals x)[j]? = some v → W.cell? ⟨b, off + i * sz + j, none⟩ = some v := by
  rcases h with h | ⟨b, off, e, hb, hc⟩
  · rw [h] at hx; simp at hx
  · exact ⟨b, off, e, hb, hc i x hx⟩
theorem bulk_appR {H : Type} (l m : List (DataW H)) : Rows.uptoBulkAll (l ++ m) = Rows.uptoBulkAll l + Rows.uptoBulkAll m := by
  induction l with
  | nil => simp [Rows.uptoBulkAll]
  | cons d r ih => simp only [List.cons_append, Rows.uptoBulkAll, ih]; omega
theorem bulk_sumR {H α : Type} (f : α → Nat) (D : Nat → DataW H) (xs : List α) (h : ∀ i x, xs[i]? = some x → f x ≤ Rows.uptoBulk (D i)) : (xs.map f).sum ≤ Rows.uptoBulkAll ((List.range xs.length).map D) := by
  have key : ∀ n, n ≤ xs.length → ((xs.take n).map f).sum ≤ Rows.uptoBulkAll ((List.range n).map D) := by
    intro n
    induction n with
    | zero => intro _; simp
    | succ n ih =>
      intro hn
      have h1 := ih (by omega)
      have h2 := h n _ (List.getElem?_eq_getElem (by omega))
      rw [List.take_succ_eq_append_getElem (by omega), List.map_append, List.sum_append, List.range_succ, List.map_append, bulk_appR]
      simp only [List.map_cons, List.map_nil, List.sum_cons, List.sum_nil, Rows.uptoBulkAll]
      omega
  have := key xs.length (Nat.le_refl _)
  rw [List.take_length] at this
  exact this
set_option maxRecDepth 100000 in
theorem open_row {α H : Type} {enc : TypeId × Value → H} {W : World} {t e : TypeId} {sz fuel : Nat} (vals : α → List Value) (Q : α → DataW H → Prop) (f : α → Nat) (ht : Try.prog.underlying t = some (.slice e)) (hc : Try.prog.cellsOf e = sz) (hsz : 0 < sz) (hvl : ∀ x, (vals x).length = sz)
    (hel : ∀ fuel cs x, DataW.trod enc Try.prog W 0 (fun _ => true) true fuel e cs = some x → ∃ a, cs = vals a ∧ Q a x.1 ∧ f a ≤ Rows.uptoBulk x.1) {a : Option Addr} {len cap : Nat} {x : DataW H × List MemPlace} (h : DataW.trod enc Try.prog W 0 (fun _ => true) true fuel t [.slice a len cap] = some x) :
    ∃ xs : List α, len = xs.length ∧ RowC sz vals W a xs ∧ (∀ x ∈ xs, ∃ d, Q x d) ∧ (xs.map f).sum + 1 ≤ Rows.uptoBulk x.1 ∧ len ≤ cap ∧ cap ≤ maxLen ∧ (a = none → xs = [] ∧ cap = 0) := by
  rcases Go.Deep.open_slice ht h with ⟨hcs, hx0⟩ | ⟨ad, l, c, m, n, D, Pl, hcs, _, hl, hm, hmm, hx, hele⟩
  · simp at hcs
    obtain ⟨rfl, rfl, rfl⟩ := hcs
    subst hx0
    exact ⟨[], rfl, .inl rfl, by simp, by simp [Rows.uptoBulk], Nat.le_refl _, Nat.zero_le _, fun _ => ⟨rfl, rfl⟩⟩
  · simp at hcs
    obtain ⟨rfl, rfl, rfl⟩ := hcs
    have hlm : len ≤ m := by rw [hmm]; simp; exact hl
    rw [hc] at hele
    obtain ⟨xs, hxl, hxq⟩ := gatherQ (Q := fun i x => Q x (D i) ∧ f x ≤ Rows.uptoBulk (D i) ∧ W.cells? 0 (ad.add (i * sz)) sz = some (vals x)) len (fun i hi => by
      obtain ⟨cs', h1, h2⟩ := hele i (by omega)
      obtain ⟨y, rfl, hq, hk⟩ := hel _ _ _ h2
      exact ⟨y, hq, hk, h1⟩)
    refine ⟨xs, hxl.symm, ?_, ?_, ?_, hl, hm, fun h => by cases h⟩
    · by_cases h0 : len = 0
      · exact .inl (List.eq_nil_of_length_eq_zero (by omega))
      · obtain ⟨b, off, spot⟩ := ad
        obtain ⟨x0, hx0⟩ : ∃ x, xs[0]? = some x := ⟨_, List.getElem?_eq_getElem (by omega)⟩
        obtain ⟨v0, hv0⟩ : ∃ v, (vals x0)[0]? = some v := ⟨_, List.getElem?_eq_getElem (by rw [hvl]; exact hsz)⟩
        have hc0 : W.cell? ⟨b, off, spot⟩ = some v0 := by
          obtain ⟨_, _, hcc⟩ := World.cells?_some (hxq 0 x0 hx0).2.2
          have h1 := hcc 0 (by omega)
          have e : ((⟨b, off, spot⟩ : Addr).add (0 * sz)).add 0 = ⟨b, off, spot⟩ := by simp [Addr.add]
          rw [e, hv0] at h1
          exact h1
        have hspot : spot = none := by simpa using World.cell?_spot hc0
        subst hspot
        refine .inr ⟨b, off, rfl, World.block_lt_of_cell? _ _ hc0, fun i x hx j v hv => ?_⟩
        have hj : j < sz := by have := (List.getElem?_eq_some_iff.1 hv).1; rw [hvl] at this; exact this
        obtain ⟨_, _, hcc⟩ := World.cells?_some (hxq i x hx).2.2
        have h1 := hcc j hj
        rw [hv] at h1
        have e1 : (⟨b, off, none⟩ : Addr).add (i * sz) = ⟨b, off + i * sz, none⟩ := by simp [Addr.add]
        have e2 : (⟨b, off + i * sz, none⟩ : Addr).add j = ⟨b, off + i * sz + j, none⟩ := by simp [Addr.add]
        rw [e1, e2] at h1
        exact h1
    · intro y hy
      obtain ⟨i, hi⟩ := List.getElem?_of_mem hy
      exact ⟨_, (hxq i y hi).1⟩
    · have h1 := bulk_sumR f D xs (fun i x hi => (hxq i x hi).2.1)
      rw [hx, ← hxl]
      simp only [Rows.uptoBulk]
      omega
end Go.Proofs.Ytmljacjbpcgijaa
namespace Go.Proofs.Ytmljacjbpcgijaa
open Go.RowKit Go.Shelf
set_option linter.unusedVariables false

/-- A list of ints. -/
def IntsP (W : World) (a : Option Addr) (zs : List Int) : Prop := (∀ z ∈ zs, -9223372036854775808 ≤ z ∧ z ≤ 9223372036854775807) ∧ (zs = [] ∨ ∃ b off, a = some ⟨b, off, none⟩ ∧ b < W.heap.size ∧ ∀ (i : Nat) (z : Int), zs[i]? = some z → W.cell? ⟨b, off + i, none⟩ = some (.int .i64 z))
theorem IntsP.below {W W' : World} {a : Option Addr} {zs : List Int} (h : IntsP W a zs) (hB : Below W.heap.size W W') : IntsP W' a zs := by
  refine ⟨h.1, ?_⟩
  rcases h.2 with h | ⟨b, off, e, hb, hc⟩
  · exact .inl h
  · exact .inr ⟨b, off, e, Nat.lt_of_lt_of_le hb hB.size, fun i z hz => (hB.cell hb).trans (hc i z hz)⟩
theorem IntsP.at {W : World} {a : Option Addr} {zs : List Int} (h : IntsP W a zs) {i : Nat} {z : Int} (hz : zs[i]? = some z) : ∃ b off, a = some ⟨b, off, none⟩ ∧ W.cell? ⟨b, off + i, none⟩ = some (.int .i64 z) ∧ -9223372036854775808 ≤ z ∧ z ≤ 9223372036854775807 := by
  rcases h.2 with h2 | ⟨b, off, e, hb, hc⟩
  · rw [h2] at hz; simp at hz
  · have h3 := h.1 z (List.mem_of_getElem? hz)
    exact ⟨b, off, e, hc i z hz, h3.1, h3.2⟩
/-- No number below 0. -/
def nonneg (zs : List Int) : Bool := zs.all (fun z => decide (0 ≤ z))
theorem nonneg_no {zs : List Int} {i : Nat} {z : Int} (hz : zs[i]? = some z) (h : z < 0) : nonneg zs = false := by
  unfold nonneg
  rw [List.all_eq_false]
  exact ⟨z, List.mem_of_getElem? hz, by simpa using h⟩
theorem nonneg_yes {zs : List Int} (h : ∀ (i : Nat) (z : Int), i < zs.length → zs[i]? = some z → 0 ≤ z) : nonneg zs = true := by
  unfold nonneg
  rw [List.all_eq_true]
  intro z hz
  obtain ⟨i, hi⟩ := List.getElem?_of_mem hz
  simpa using h i z (List.getElem?_eq_some_iff.1 hi).1 hi
set_option maxHeartbeats 400000 in
theorem pmayI {w : World} {a : Option Addr} {zs : List Int} (cap m : Nat) (h : IntsP w a zs) (hm : zs.length = m) (hl : m ≤ 17592186043904) : Calls Try.prog 24 #[.slice a m cap] w fun e w' => e = .returned (.bool (nonneg zs)) ∧ w' = w := by
  have H := hide h
  have HM := hide hm
  obtain ⟨g5, hg5⟩ : ∃ g, nonneg zs = g := ⟨_, rfl⟩
  rw [hg5]
  have HG := hide hg5
  clear h hm hg5
  go_enter Try.func24, Try.ntmps24
  go_wp2
  go_loopw [7] (fun iv wr => ∃ j : Nat, iv = .int .i64 (j : Int) ∧ j ≤ m ∧ wr = w ∧ ∀ (i : Nat) (z : Int), i < j → zs[i]? = some z → 0 ≤ z) (fun iv _ => (m - (intOf iv).toNat))
  case atStart => exact ⟨0, rfl, Nat.zero_le _, rfl, fun i z h => by omega⟩
  case round =>
    obtain ⟨j, rfl, hj, rfl, hall⟩ := hrel
    have HALL := hide hall
    clear hall
    by_cases hlt : j < m
    · obtain ⟨k, hk⟩ : ∃ k, zs[j]? = some k := ⟨_, List.getElem?_eq_getElem (by rw [HM.out]; exact hlt)⟩
      obtain ⟨g, o, rfl, hc, hkb⟩ := H.out.at hk
      have l0 := index_int g o j m cap hlt wr
      have jI : (j : Int) < (m : Int) := by omega
      have HK := hide hk
      clear hk
      by_cases kI : k < 0
      · have hgf : g5 = false := HG.out.symm.trans (nonneg_no HK.out kI)
        subst hgf
        go_wp2
        go_ret
        exact ⟨rfl, rfl⟩
      · go_wp2
        go_roundw
        case rel => exact ⟨j + 1, int_congrP (by omega), by omega, trivial, fun i z hi hz => by
          by_cases e : i = j
          · subst e; rw [HK.out] at hz; cases hz; omega
          · exact HALL.out i z (by omega) hz⟩
        case measure => simp [intOf]; omega
    · have jI : ¬ (j : Int) < (m : Int) := by omega
      have hgt : g5 = true := HG.out.symm.trans (nonneg_yes (fun i z hi hz => HALL.out i z (by have := HM.out; omega) hz))
      subst hgt
      go_wp2
      go_ret
      exact ⟨rfl, rfl⟩
def IZ (z : Int) : Value := .int .i64 z
theorem cellOneK (W : World) (x : Value) (t : TypeId) : ∀ (j : Nat) u, [x][j]? = some u → (W.alloc (.cells #[x] t)).cell? ((⟨W.heap.size, 0, none⟩ : Addr).add j) = some u := fun j u hu => by
  have h := heap_alloc_new W (.cells #[x] t)
  match j, hu with
  | 0, hu =>
    cases hu
    have e : (⟨W.heap.size, 0, none⟩ : Addr).add 0 = ⟨W.heap.size, 0, none⟩ := by simp [Addr.add]
    rw [e, cell8 h 0]
    rfl
  | n + 1, hu => simp at hu
/-- A list of ints, in memory of its own. -/
def OwnI (W : World) (B : Nat) (v : Value) (zs : List Int) : Prop := W.ownsRow B 3 1 v zs.length (zs.map IZ)
/-- Such a list, where no number is below 0, is one of what lines keep. -/
theorem OwnI.slN {W : World} {B m : Nat} {ka : Option Addr} {kc : Nat} {zs : List Int} (h : OwnI W B (.slice ka m kc) zs) (hm : zs.length = m) (hb : ∀ z ∈ zs, -9223372036854775808 ≤ z ∧ z ≤ 9223372036854775807) (hn : nonneg zs = true) : SlN W ka (zs.map Int.toNat) := by
  unfold nonneg at hn
  rw [List.all_eq_true] at hn
  refine ⟨fun k hk => ?_, ?_⟩
  · obtain ⟨z, hz, rfl⟩ := List.mem_map.1 hk
    have := hb z hz
    omega
  · unfold OwnI at h
    rw [hm] at h
    rcases h.2 with ⟨e, h0⟩ | ⟨g, cap, cur, e, h1, h2, h3, _, h4, h5⟩
    · have : zs = [] := List.eq_nil_of_length_eq_zero (by omega)
      cases e
      subst this
      exact .inl ⟨rfl, rfl⟩
    · cases e
      refine .inr ⟨g, 0, cur, _, rfl, h2, fun j k hj => ?_⟩
      rw [List.getElem?_map] at hj
      obtain ⟨z, hz, rfl⟩ := Option.map_eq_some_iff.1 hj
      have hlt : j < zs.length := (List.getElem?_eq_some_iff.1 hz).1
      have h6 : (cur.toList.take (m * 1))[j]? = some (IZ z) := by rw [h5, List.getElem?_map, hz]; rfl
      rw [List.getElem?_take, if_pos (by omega)] at h6
      rw [Nat.zero_add, cell8 h2]
      have h0 : 0 ≤ z := by simpa using hn z (List.mem_of_getElem? hz)
      rw [show ((z.toNat : Nat) : Int) = z by omega]
      simpa [IZ] using h6
theorem OwnI.ints {W : World} {B m : Nat} {ka : Option Addr} {kc : Nat} {zs : List Int} (h : OwnI W B (.slice ka m kc) zs) (hm : zs.length = m) (hb : ∀ z ∈ zs, -9223372036854775808 ≤ z ∧ z ≤ 9223372036854775807) : IntsP W ka zs := by
  refine ⟨hb, ?_⟩
  unfold OwnI at h
  rw [hm] at h
  rcases h.2 with ⟨e, h0⟩ | ⟨g, cap, cur, e, h1, h2, h3, _, h4, h5⟩
  · exact .inl (List.eq_nil_of_length_eq_zero (by omega))
  · cases e
    refine .inr ⟨g, 0, rfl, lt_of_heap h2, fun j z hj => ?_⟩
    have hlt : j < zs.length := (List.getElem?_eq_some_iff.1 hj).1
    have h6 : (cur.toList.take (m * 1))[j]? = some (IZ z) := by rw [h5, List.getElem?_map, hj]; rfl
    rw [List.getElem?_take, if_pos (by omega)] at h6
    rw [Nat.zero_add, cell8 h2]
    simpa [IZ] using h6
theorem pcrash_no {w : World} {b : Nat} {L : Lay} {σ : St} {a : Option Addr} {zs : List Int} (cap m : Nat) (hd : DevL w b L σ) (ho : σ.off = false) (h : IntsP w a zs) (hm : zs.length = m) (hl : m ≤ 17592186043904) (hn : nonneg zs = false) : Calls Try.prog 11 #[.pointer (some ⟨b, 0, none⟩), .slice a m cap] w fun e w' => e = .returned (.int .i64 2) ∧ w' = w := by
  have ks := pstate_any hd
  rw [ho] at ks
  simp only [Bool.false_eq_true, if_false] at ks
  have km := pmayI (w := w) cap m h hm hl
  rw [hn] at km
  have KS := hide ks
  have KM := hide km
  clear ks km hd ho h hm hl hn
  go_enter Try.func11, Try.ntmps11
  go_wp2_with (first | (go_at_call 23; refine (KS.out).mono ?_; rintro e w' ⟨rfl, hw⟩; obtain rfl := hw.symm) | (go_at_call 24; refine (KM.out).mono ?_; rintro e w' ⟨rfl, hw⟩; obtain rfl := hw.symm))
  go_ret
  exact ⟨rfl, rfl⟩
end Go.Proofs.Ytmljacjbpcgijaa
