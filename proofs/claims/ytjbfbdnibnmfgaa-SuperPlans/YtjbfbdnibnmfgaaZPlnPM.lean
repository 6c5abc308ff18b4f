/- SuperPlans answers true for all sizes and all plans: super.Plan and super.Line answer what the document answers, for the plan that is handed in, the plan of the size, and one beside it; their answers are new memory. -/
import Derived.Test.YtjbfbdnibnmfgaaRowsH
import Derived.Test.YtjbfbdnibnmfgaaHelp
import Derived.ArgAppend
import Derived.Deep.RegionWith
import Derived.BigRegion
import Derived.Deep.QuietTactic
import Derived.BigQuiet
import Derived.Test.YtjbfbdnibnmfgaaZLine
import Derived.Laws.IdiomStrings
import Derived.Test.YtjbfbdnibnmfgaaBase
import Derived.ProofKit
import Derived.ChangeOld
import Derived.ChangeMaps5
import Derived.SizedLaws
import Derived.JoinedCond
namespace Go.Proofs.Ytjbfbdnibnmfgaa
open Go.RowKit
set_option linter.unusedVariables false

theorem flat_at {rs : List (List Nat)} {i : Nat} {r : List Nat} (h : rs[i]? = some r) : (rs.take i).flatten.length + r.length ≤ rs.flatten.length := by
  have e := List.take_append_drop (i + 1) rs
  have l := congrArg (fun l => l.flatten.length) e
  simp only [List.flatten_append, List.length_append, List.take_add_one, h, Option.toList_some, List.flatten_cons, List.flatten_nil, List.append_nil] at l
  omega
theorem flat_next {rs : List (List Nat)} {i : Nat} {r : List Nat} (h : rs[i]? = some r) : (rs.take (i + 1)).flatten = (rs.take i).flatten ++ r := by
  simp [List.take_add_one, h]

set_option maxHeartbeats 1000000 in
theorem join_any (a : Option Addr) (cap : Nat) (rs : List (List Nat)) (w : World) (hg : SlR w a rs) (hn : rs.length ≤ 1000000000000) (hl : rs.flatten.length ≤ 140737488355328) :
    Calls Try.prog 72 #[.slice a rs.length cap] w fun e w' => ∃ v, e = .returned v ∧ w'.ownsRow w.heap.size 5 1 v rs.flatten.length (rs.flatten.map B8) ∧ Below w.heap.size w w' := by
  obtain ⟨i0, hi, hz0, hz1, hz2⟩ := info_parts Try.info5
  go_enter Try.func72, Try.ntmps72
  go_wp2
  go_loopw [3, 4] (fun v i wr => ∃ (k : Nat), k ≤ rs.length ∧ i = .int .i64 k ∧ wr.ownsRow w.heap.size 5 1 v (rs.take k).flatten.length ((rs.take k).flatten.map B8) ∧ Below w.heap.size w wr)
    (fun _ i _ => rs.length - (intOf i).toNat)
  case atStart => exact ⟨0, by omega, rfl, World.ownsRow_nil _ _ _ _, Below.refl _ _⟩
  case round =>
    obtain ⟨k, hk, rfl, hown, hB⟩ := hrel
    have HO := hide hown
    have HB := hide hB
    clear hown hB
    by_cases hlt : k < rs.length
    · obtain ⟨r, hrk⟩ : ∃ r, rs[k]? = some r := ⟨_, List.getElem?_eq_getElem hlt⟩
      obtain ⟨b, off, rfl, hbl, hseg⟩ : ∃ b off, a = some ⟨b, off, none⟩ ∧ b < w.heap.size ∧ ∀ (i : Nat) (r : List Nat), rs[i]? = some r → ∃ ai cap, w.cell? ⟨b, off + i, none⟩ = some (.slice ai r.length cap) ∧ Sl w ai r ∧ r.length ≤ maxLen := by
        rcases hg with rfl | h
        · simp at hlt
        · exact h
      obtain ⟨ai, ci, hc0, hsl, hm⟩ := hseg k r hrk
      have hfl := flat_at hrk
      have HF : Hid ((rs.take k).flatten.length + r.length ≤ 140737488355328) := Nat.le_trans hfl hl
      have hrl : r.length ≤ 140737488355328 := by omega
      have HX := hide hrk
      have HS := hide hsl
      have HC := hide hc0
      have HG := hide hg
      clear hrk hc0 hsl hm hseg hg hfl
      have hki : (k : Int) < (rs.length : Int) := by omega
      go_wp2
      generalize hPe : (rs.take k).flatten = P at HO HF
      have HP := hide hPe
      clear hPe
      go_loopw [3, 5] (fun v i wq => ∃ (j : Nat), j ≤ r.length ∧ i = .int .i64 j ∧ wq.ownsRow w.heap.size 5 1 v (P ++ r.take j).length ((P ++ r.take j).map B8) ∧ Below w.heap.size w wq)
        (fun _ i _ => r.length - (intOf i).toNat)
      case atStart => exact ⟨0, by omega, rfl, by simpa using HO.out, HB.out⟩
      case round =>
        obtain ⟨j, hj, rfl, hown, hB⟩ := hrel
        have HO2 := hide hown
        have HB2 := hide hB
        have hsz := hB.size
        have hc : wr.cell? ⟨b, off + k, none⟩ = some (.slice ai r.length ci) := (hB.cell (p := ⟨b, off + k, none⟩) hbl).trans HC.out
        clear hown hB
        by_cases hjl : j < r.length
        · obtain ⟨x, hx⟩ : ∃ x, r[j]? = some x := ⟨_, List.getElem?_eq_getElem hjl⟩
          obtain ⟨b2, o2, rfl, hb2, hs2⟩ : ∃ b off, ai = some ⟨b, off, none⟩ ∧ b < w.heap.size ∧ Seg w b off r := by
            rcases HS.out with rfl | h
            · simp at hjl
            · exact h
          have hcx : wr.cell? ⟨b2, o2 + j, none⟩ = some (.int .u8 (x : Int)) := (HB2.out.cell (p := ⟨b2, o2 + j, none⟩) hb2).trans (hs2 j x hx).1
          have hji : (j : Int) < (r.length : Int) := by omega
          have HXX := hide hx
          clear hx hs2
          have HPL : Hid ((P ++ r.take j).length + 1 ≤ 140737488355328) := show _ ≤ _ by have := HF.out; simp; omega
          go_wp2_with (at_builtin; refine wpList_append_own _ rfl _ _ 28 rfl w.heap.size 5 i0 (.int .u8 0) 1 1 Try.underlying28 hi hz0 hz1 hz2 rfl (by omega) _ _ _ rfl (HO2.out.alloc _) ⟨wr.heap.size, 0, none⟩ 1 1 [.int .u8 (x : Int)] rfl rfl (cell_one_new _ _ _) (by simp [Value.oneCell']) (by have := HPL.out; unfold maxLen; omega) (by have := HPL.out; omega) (by simp; omega) ?_; intro v3 w3 hown3 hgrow3 _)
          have HO3 := hide hown3
          have HB3 : Hid (Below w.heap.size w w3) := (HB2.out.alloc (by omega) _).grown hgrow3 (by simp; omega) (fun j e => (HO2.out.lt j e).1)
          clear hown3 hgrow3
          go_wp2
          go_roundw
          case rel =>
            refine ⟨j + 1, by omega, by go_num, ?_, HB3.out⟩
            have h := HO3.out
            rw [List.take_add_one, HXX.out]
            simpa [B8, Nat.add_assoc] using h
          case measure => simp [intOf]; omega
        · have hjj : j = r.length := by omega
          have HJ := hide hjj
          have hji : (r.length : Int) ≤ (j : Int) := by omega
          clear hjj
          go_wp2
          go_roundw
          case rel =>
            refine ⟨k + 1, by omega, by go_num, ?_, HB2.out⟩
            have h := HO2.out
            rw [HJ.out, List.take_length] at h
            rw [flat_next HX.out, HP.out]
            exact h
          case measure => simp [intOf]; omega
    · have hkk : k = rs.length := by omega
      have HK := hide hkk
      have hki : (rs.length : Int) ≤ (k : Int) := by omega
      clear hg hkk
      go_wp2
      go_ret
      have h := HO.out
      rw [HK.out, List.take_length] at h
      exact ⟨_, rfl, h, HB.out⟩

set_option maxHeartbeats 400000 in
theorem eqRows_true (a b : Option Addr) (c d : Nat) (rs : List (List Nat)) (w : World) (ha : SlR w a rs) (hb : SlR w b rs) (hl : rs.length ≤ 1000000000000) :
    Calls Try.prog 37 #[.slice a rs.length c, .slice b rs.length d] w fun e w' => e = .returned (.bool true) ∧ ∃ n, w' = w.drewN n := by
  have hne : ((rs.length : Int) != (rs.length : Int)) = false := by simp
  go_enter Try.func37, Try.ntmps37
  go_wp2
  clear hne
  go_loopw [5] (fun i wr => ∃ k n : Nat, k ≤ rs.length ∧ i = .int .i64 k ∧ wr = w.drewN n) (fun i _ => rs.length - (intOf i).toNat)
  case atStart => exact ⟨0, 0, by omega, rfl, rfl⟩
  case round =>
    obtain ⟨k, n, hk, rfl, hwr⟩ := hrel
    have HWR := hide hwr
    have hBr : Below w.heap.size w wr := by rw [hwr]; exact below_drewN (Below.refl _ _) n
    clear hwr
    by_cases hlt : k < rs.length
    · obtain ⟨r, hrk⟩ : ∃ r, rs[k]? = some r := ⟨_, List.getElem?_eq_getElem hlt⟩
      obtain ⟨b1, o1, rfl, hb1, hs1⟩ : ∃ b off, a = some ⟨b, off, none⟩ ∧ b < w.heap.size ∧ ∀ (i : Nat) (r : List Nat), rs[i]? = some r → ∃ ai cap, w.cell? ⟨b, off + i, none⟩ = some (.slice ai r.length cap) ∧ Sl w ai r ∧ r.length ≤ maxLen := by
        rcases ha with rfl | h
        · simp at hlt
        · exact h
      obtain ⟨b2, o2, rfl, hb2, hs2⟩ : ∃ b' off, b = some ⟨b', off, none⟩ ∧ b' < w.heap.size ∧ ∀ (i : Nat) (r : List Nat), rs[i]? = some r → ∃ ai cap, w.cell? ⟨b', off + i, none⟩ = some (.slice ai r.length cap) ∧ Sl w ai r ∧ r.length ≤ maxLen := by
        rcases hb with rfl | h
        · simp at hlt
        · exact h
      obtain ⟨x1, c1, hc1, hsl1, hm1⟩ := hs1 k r hrk
      obtain ⟨x2, c2, hc2, hsl2, _⟩ := hs2 k r hrk
      have ce : ∀ m, Calls Try.prog 12 #[.slice x1 r.length c1, .slice x2 r.length c2] (wr.drewN m) fun e w' => e = .returned (.bool true) ∧ ∃ q, w' = (wr.drewN m).drewN q := fun m => by
        have h := eqBytes_any x1 x2 c1 c2 r r (wr.drewN m) (hsl1.below (below_drewN hBr m)) (hsl2.below (below_drewN hBr m)) (by unfold maxLen at hm1; omega)
        rw [decide_eq_true rfl] at h
        exact h
      have CE := hide ce
      have hki : (k : Int) < (rs.length : Int) := by omega
      have hc1' : wr.cell? ⟨b1, o1 + k, none⟩ = some (.slice x1 r.length c1) := (hBr.cell (p := ⟨b1, o1 + k, none⟩) hb1).trans hc1
      have hc2' : wr.cell? ⟨b2, o2 + k, none⟩ = some (.slice x2 r.length c2) := (hBr.cell (p := ⟨b2, o2 + k, none⟩) hb2).trans hc2
      clear ce hs1 hs2 hsl1 hsl2 hrk ha hb hc1 hc2 hBr
      go_wp2
      go_quiet ((go_at_call 12; refine Calls.quiet_of (unhide CE _)))
      go_wp2
      go_roundw
      case rel => exact ⟨k + 1, n + nq, by omega, by go_num, by rw [HWR.out, World.drewN_drewN]⟩
      case measure => simp [intOf]; omega
    · have hki : (rs.length : Int) ≤ (k : Int) := by omega
      clear ha hb hBr
      go_wp2
      go_ret
      exact ⟨rfl, n, HWR.out⟩

end Go.Proofs.Ytjbfbdnibnmfgaa
namespace Go.Proofs.Ytjbfbdnibnmfgaa
open Go.RowKit
set_option linter.unusedVariables false

theorem ret_int' {k : IntKind} {a b : Int} (h : a = b) : Ending.returned (.int k a) = .returned (.int k b) := by rw [h]

/-- The number of so many bytes at a place, and the error's number. -/
def takeV (bs : List Nat) (p : Int) (n : Nat) : Nat × Int :=
  if p < 0 ∨ (bs.length : Int) - n < p then (0, 6) else (leV ((bs.drop p.toNat).take n), 0)
theorem takeV_lt (bs : List Nat) (p : Int) (n : Nat) (h : ∀ x ∈ bs, x < 256) : (takeV bs p n).1 < 256 ^ n := by
  unfold takeV
  split
  · exact Nat.pow_pos (by omega)
  · refine Nat.lt_of_lt_of_le (leV_lt _ fun x hx => h x (List.mem_of_mem_drop (List.mem_of_mem_take hx))) (Nat.pow_le_pow_right (by omega) (List.length_take_le _ _))
theorem leB_mod (n v : Nat) : leB n (v % 256 ^ n) = leB n v := by
  induction n generalizing v with
  | zero => rfl
  | succ n ih =>
    simp only [leB]
    have e1 : v % 256 ^ (n + 1) % 256 = v % 256 := Nat.mod_mod_of_dvd v ⟨256 ^ n, by rw [Nat.pow_succ, Nat.mul_comm]⟩
    have e2 : v % 256 ^ (n + 1) / 256 = v / 256 % 256 ^ n := by rw [Nat.pow_succ, Nat.mul_comm, Nat.mod_mul_right_div_self]
    rw [e1, e2, ih]

theorem take64_any (a : Option Addr) (cap : Nat) (bs : List Nat) (p : Int) (w : World) (hg : Sl w a bs) (hl : bs.length ≤ maxLen) :
    Calls Try.prog 94 #[.slice a bs.length cap, .int .i64 p] w fun e w' => e = .returned (.tuple #[.int .u64 (takeV bs p 8).1, .int .i64 (takeV bs p 8).2]) ∧ w' = w := by
  unfold takeV
  by_cases h1 : p < 0
  · rw [if_pos (.inl h1)]; exact take64_low a bs.length cap w p h1
  · by_cases h2 : (bs.length : Int) - 8 < p
    · rw [if_pos (.inr h2)]; exact take64_high a bs.length cap w p hl (by omega) h2
    · rw [if_neg (by intro h; rcases h with h | h; exact h1 h; exact h2 h)]
      obtain ⟨q, rfl⟩ := Int.eq_ofNat_of_zero_le (show 0 ≤ p by omega)
      exact take64_good a cap q bs w hg hl (by omega)

end Go.Proofs.Ytjbfbdnibnmfgaa
namespace Go.Proofs.Ytjbfbdnibnmfgaa
open Go.RowKit
set_option linter.unusedVariables false

theorem shr_byte (v k : Nat) : (v : Int) / 2 ^ (8 * k) % 256 = ((v / 256 ^ k % 256 : Nat) : Int) := by
  have e : (2 : Int) ^ (8 * k) = ((256 ^ k : Nat) : Int) := by rw [Int.pow_mul, Int.natCast_pow]; rfl
  rw [e, ← Int.natCast_ediv]
  omega
theorem leB_take (n v k x : Nat) (h : k < n) (hx : x = v / 256 ^ k % 256) : (leB n v).take (k + 1) = (leB n v).take k ++ [x] := by
  rw [List.take_add_one, leB_get n v k h, hx]; rfl

set_option maxHeartbeats 400000 in
theorem little_any (v n : Nat) (w : World) (hv : v < 18446744073709551616) (hn : n ≤ 8) :
    Calls Try.prog 44 #[.int .u64 v, .int .i64 n] w fun e w' => ∃ u, e = .returned u ∧ w'.ownsRow w.heap.size 5 1 u n ((leB n v).map B8) ∧ Below w.heap.size w w' := by
  obtain ⟨i0, hi, hz0, hz1, hz2⟩ := info_parts Try.info5
  go_enter Try.func44, Try.ntmps44
  go_wp2
  go_loopw [5, 6] (fun u i wr => ∃ (k : Nat), k ≤ n ∧ i = .int .i64 k ∧ wr.ownsRow w.heap.size 5 1 u k (((leB n v).take k).map B8) ∧ Below w.heap.size w wr)
    (fun _ i _ => n - (intOf i).toNat)
  case atStart => exact ⟨0, by omega, rfl, World.ownsRow_nil _ _ _ _, Below.refl _ _⟩
  case round =>
    obtain ⟨k, hk, rfl, hown, hB⟩ := hrel
    have HO := hide hown
    have HB := hide hB
    have hsz := hB.size
    clear hown hB
    by_cases hlt : k < n
    · have hto : (8 * (k : Int)).toNat = 8 * k := by omega
      have hs := shr_byte v k
      generalize hxe : v / 256 ^ k % 256 = x at hs
      have HX := hide hxe
      clear hxe
      go_wp2_with (at_builtin; refine wpList_append_own _ rfl _ _ 28 rfl w.heap.size 5 i0 (.int .u8 0) 1 1 Try.underlying28 hi hz0 hz1 hz2 rfl (by omega) _ _ _ rfl (HO.out.alloc _) ⟨wr.heap.size, 0, none⟩ 1 1 [.int .u8 (x : Int)] rfl rfl (cell_one_new _ _ _) (by simp [Value.oneCell']) (by unfold maxLen; omega) (by omega) (by simp; omega) ?_; intro v3 w3 hown3 hgrow3 _)
      have HO3 := hide hown3
      have HB3 : Hid (Below w.heap.size w w3) := (HB.out.alloc (by omega) _).grown hgrow3 (by simp; omega) (fun j e => (HO.out.lt j e).1)
      clear hown3 hgrow3
      go_wp2
      go_roundw
      case rel =>
        refine ⟨k + 1, by omega, by go_num, ?_, HB3.out⟩
        rw [leB_take n v k x hlt HX.out.symm]
        simpa [B8] using HO3.out
      case measure => simp [intOf]; omega
    · have hkk : k = n := by omega
      subst hkk
      go_wp2
      go_ret
      have h := HO.out
      rw [List.take_of_length_le (by rw [leB_length]; omega)] at h
      exact ⟨_, rfl, h, HB.out⟩

def markOf (i k : Nat) : Nat := (i * 31 + k * 7 + 1) % 256
theorem mark_any (i k : Nat) (w : World) (hi : i ≤ 1000000000000) (hk : k ≤ 1000000000000000) :
    Calls Try.prog 46 #[.int .i64 i, .int .i64 k] w fun e w' => e = .returned (.int .u8 ((markOf i k : Nat) : Int)) ∧ w' = w := by
  go_enter Try.func46, Try.ntmps46
  go_wp2
  go_ret
  exact ⟨ret_int' (by unfold markOf; omega), rfl⟩

theorem xor_half (a b : Nat) : (a ^^^ b) / 2 = a / 2 ^^^ b / 2 := Nat.xor_div_two
theorem xor_low (a b : Nat) : (a ^^^ b) % 2 = (a % 2 + b % 2) % 2 := by
  have e : (a ^^^ b) % 2 ^ 1 = a % 2 ^ 1 ^^^ b % 2 ^ 1 := Nat.xor_mod_two_pow
  rw [Nat.pow_one] at e
  rw [e]
  rcases Nat.mod_two_eq_zero_or_one a with h1 | h1 <;> rcases Nat.mod_two_eq_zero_or_one b with h2 | h2 <;> rw [h1, h2] <;> rfl
def refStep (r y : Nat) : Nat := if y % 2 = r % 2 then r / 2 else r / 2 ^^^ 2197175160
theorem refStep_eq (r y : Nat) : bitStep (r ^^^ y) = refStep r y ^^^ (y / 2) := by
  unfold bitStep refStep
  rw [xor_low, xor_half]
  by_cases h : y % 2 = r % 2
  · rw [if_neg (by omega), if_pos h]
  · rw [if_pos (by omega), if_neg h, Nat.xor_assoc, Nat.xor_comm (y / 2), ← Nat.xor_assoc]
theorem refStep_lt (r y : Nat) (h : r < 4294967296) : refStep r y < 4294967296 := by
  unfold refStep
  split
  · omega
  · exact xor_lt32 _ _ (by omega) (by omega)
theorem refSteps_next {z R x k : Nat} (h : bitSteps k z = R ^^^ x / 2 ^ k) : bitSteps (k + 1) z = refStep R (x / 2 ^ k) ^^^ x / 2 ^ (k + 1) := by
  show bitStep (bitSteps k z) = _
  rw [h, refStep_eq, Nat.pow_succ, Nat.div_div_eq_div_mul]
theorem refSteps_end {z R x : Nat} (hx : x < 256) (h : bitSteps 8 z = R ^^^ x / 2 ^ 8) : bitSteps 8 z = R := by
  rw [h, Nat.div_eq_of_lt (by omega), Nat.xor_zero]

theorem ref_inv (s : Nat) (h : s < 4294967296) : bits BinOp.xor IntKind.u64 (s : Int) 4294967295 = ((4294967295 ^^^ s : Nat) : Int) := by
  rw [Nat.xor_comm]; exact u64_xor_nat s 4294967295 (by omega) (by omega)
theorem ref_mix (r : Nat) (h : r < 4294967296) : bits BinOp.xor IntKind.u64 (r : Int) 2197175160 = ((r ^^^ 2197175160 : Nat) : Int) :=
  u64_xor_nat r 2197175160 (by omega) (by omega)
theorem ref_bit (x k : Nat) : (x : Int) / 2 ^ k = ((x / 2 ^ k : Nat) : Int) := by rw [Int.natCast_ediv, Int.natCast_pow]; rfl

set_option maxHeartbeats 400000 in
theorem refMore_any (s : Nat) (a : Option Addr) (cap : Nat) (bs : List Nat) (w : World) (hs : s < 4294967296) (hg : Sl w a bs) (hl : bs.length ≤ maxLen) :
    Calls Try.prog 73 #[.int .u32 s, .slice a bs.length cap] w fun e w' => e = .returned (.int .u32 (moreV s bs)) ∧ w' = w := by
  unfold maxLen at hl
  have hinv := ref_inv s hs
  have hi32 := xor_lt32 4294967295 s (by omega) hs
  go_enter Try.func73, Try.ntmps73
  go_wp2
  clear hinv
  go_loop [5, 6] (fun r i => ∃ k R : Nat, k ≤ bs.length ∧ R < 4294967296 ∧ i = .int .i64 k ∧ r = .int .u64 R ∧ R = runs (4294967295 ^^^ s) (bs.take k)) (fun _ i => bs.length - (intOf i).toNat)
  case atStart => exact ⟨0, 4294967295 ^^^ s, Nat.zero_le _, hi32, rfl, rfl, rfl⟩
  case round =>
    obtain ⟨k, R, hk, hR, rfl, rfl, hRk⟩ := hrel
    have HR : Hid (R = runs (4294967295 ^^^ s) (bs.take k)) := hRk
    clear hRk
    by_cases hlt : k < bs.length
    · obtain ⟨x, hx⟩ : ∃ x, bs[k]? = some x := ⟨_, List.getElem?_eq_getElem hlt⟩
      obtain ⟨b, off, rfl, _, hseg⟩ : ∃ b off, a = some ⟨b, off, none⟩ ∧ b < w.heap.size ∧ Seg w b off bs := by
        rcases hg with rfl | h
        · simp at hlt
        · exact h
      obtain ⟨hc, hx2⟩ := hseg k x hx
      have HX : Hid (bs[k]? = some x) := hx
      have hki : (k : Int) < (bs.length : Int) := by omega
      clear hx hg hseg
      go_wp2
      go_loop [5, 7] (fun r i => ∃ j Q : Nat, j ≤ 8 ∧ Q < 4294967296 ∧ i = .int .i64 j ∧ r = .int .u64 Q ∧ bitSteps j (R ^^^ x) = Q ^^^ x / 2 ^ j) (fun _ i => 8 - (intOf i).toNat)
      case atStart => exact ⟨0, R, by omega, hR, rfl, rfl, by simp [bitSteps]⟩
      case round =>
        obtain ⟨j, Q, hj, hQ, rfl, rfl, hQj⟩ := hrel
        have HQ := hide hQj
        clear hQj
        by_cases hj8 : j < 8
        · have hbit := ref_bit x j
          have hy : x / 2 ^ j < 256 := Nat.lt_of_le_of_lt (Nat.div_le_self _ _) hx2
          generalize hye : x / 2 ^ j = y at hbit hy
          have HY := hide hye
          clear hye
          by_cases hsame : y % 2 = Q % 2
          · have hq : (((y : Int) % 2) != ((Q : Int) % 2)) = false := by rw [bne_eq_false_iff_eq]; omega
            have HSM := hide hsame
            clear hsame
            go_wp2
            go_round
            case rel => exact ⟨j + 1, refStep Q y, by omega, refStep_lt _ _ hQ, by go_num, int_congr (by unfold refStep; rw [if_pos HSM.out]; omega), by rw [refSteps_next HQ.out, HY.out]⟩
            case measure => simp [intOf]; omega
          · have hq : (((y : Int) % 2) != ((Q : Int) % 2)) = true := by rw [bne_iff_ne]; omega
            have hmx := ref_mix (Q / 2) (by omega)
            have HSM := hide hsame
            clear hsame
            go_wp2
            go_round
            case rel => exact ⟨j + 1, refStep Q y, by omega, refStep_lt _ _ hQ, by go_num, int_congr (by unfold refStep; rw [if_neg HSM.out]; first | exact hmx | simp), by rw [refSteps_next HQ.out, HY.out]⟩
            case measure => simp [intOf]; omega
        · go_wp2
          go_round
          case rel =>
            have e8 : j = 8 := by omega
            subst e8
            refine ⟨k + 1, Q, by omega, hQ, by go_num, rfl, ?_⟩
            rw [List.take_add_one, HX.out]
            simp only [Option.toList_some]
            rw [runs_snoc, ← HR.out]
            exact (refSteps_end hx2 HQ.out).symm
          case measure => simp [intOf]; omega
    · have hfin : k = bs.length := by omega
      have HF : Hid (k = bs.length) := hfin
      clear hfin
      have hinv2 := ref_inv R hR
      have h32 := xor_lt32 4294967295 R (by omega) hR
      generalize hze : 4294967295 ^^^ R = z at hinv2 h32
      have HZ := hide hze
      clear hze
      go_wp2
      go_ret
      refine ⟨ret_int ?_, rfl⟩
      unfold moreV
      rw [← List.take_length (l := bs), ← HF.out, ← HR.out, HZ.out]

end Go.Proofs.Ytjbfbdnibnmfgaa
namespace Go.Proofs.Ytjbfbdnibnmfgaa
open Go.RowKit
set_option linter.unusedVariables false

/-- The marks of list number i. -/
def marksOf (i n : Nat) : List Nat := (List.range n).map (markOf i)
theorem marksOf_length (i n : Nat) : (marksOf i n).length = n := by simp [marksOf]
theorem marksOf_get {i n k : Nat} (h : k < n) : (marksOf i n)[k]? = some (markOf i k) := by simp [marksOf, h]
theorem marksOf_succ (i n : Nat) : marksOf i (n + 1) = marksOf i n ++ [markOf i n] := by simp [marksOf, List.range_succ]
theorem markOf_lt (i k : Nat) : markOf i k < 256 := Nat.mod_lt _ (by omega)
theorem marksOf_lt (i n : Nat) : ∀ x ∈ marksOf i n, x < 256 := by
  intro x hx
  obtain ⟨k, _, rfl⟩ := List.mem_map.1 hx
  exact markOf_lt i k

/-- The first bytes of one list, the others of another. -/
def mixed (l r : List Nat) (k : Nat) : List Nat := l.take k ++ r.drop k
theorem mixed_zero (l r : List Nat) : mixed l r 0 = r := by simp [mixed]
theorem mixed_all (l r : List Nat) (k : Nat) (h1 : l.length ≤ k) (h2 : r.length ≤ k) : mixed l r k = l := by simp [mixed, List.take_of_length_le h1, List.drop_eq_nil_of_le h2]
theorem mixed_get (l r : List Nat) (k : Nat) (h1 : k ≤ l.length) : (mixed l r k)[k]? = r[k]? := by
  unfold mixed
  rw [List.getElem?_append_right (by simp; omega), List.getElem?_drop]
  simp [Nat.min_eq_left h1]
theorem mixed_set (l r : List Nat) (k x : Nat) (hl : l[k]? = some x) (hr : k < r.length) : (mixed l r k).set k x = mixed l r (k + 1) := by
  have h1 : k < l.length := (List.getElem?_eq_some_iff.1 hl).1
  unfold mixed
  have e : r.drop k = r[k] :: r.drop (k + 1) := List.drop_eq_getElem_cons hr
  rw [List.set_append_right _ _ (by simp; omega), List.length_take, Nat.min_eq_left (by omega), Nat.sub_self, e, List.set_cons_zero, List.take_add_one, hl]
  simp

theorem OwnB.other {w : World} {g g' i : Nat} {bs : List Nat} {v : Value} (h : OwnB w g bs) (hne : g ≠ g') : OwnB (w.setCell ⟨g', i, none⟩ v) g bs := by
  unfold OwnB at *
  simp only [World.setCell, Array.getElem?_modify, h]
  rw [if_neg (fun e => hne e.symm)]
theorem block_other {w : World} {b g' i : Nat} {v : Value} (hne : b ≠ g') : (w.setCell ⟨g', i, none⟩ v).heap[b]? = w.heap[b]? := by
  simp only [World.setCell, Array.getElem?_modify]
  rw [if_neg (fun e => hne e.symm)]
theorem ownsRow_base {W : World} {base base' : Nat} {e : TypeId} {size : Nat} {v : Value} {k : Nat} {xs : List Value} (h : W.ownsRow base e size v k xs) (hb : base' ≤ base) : W.ownsRow base' e size v k xs := by
  refine ⟨h.1, ?_⟩
  rcases h.2 with h2 | ⟨g, cap, cur, hv, hg, r⟩
  · exact .inl h2
  · exact .inr ⟨g, cap, cur, hv, Nat.le_trans hb hg, r⟩
theorem piece_of_owns {W : World} {base base' : Nat} {a : Option Addr} {c : Nat} {bs : List Nat} (h : W.ownsRow base' 5 1 (.slice a bs.length c) bs.length (bs.map B8)) (hx : ∀ x ∈ bs, x < 256) : Piece W base a bs := by
  rcases h.2 with ⟨h1, h0⟩ | ⟨g, cap, cur, hv, _, hg, hn, _, hs, hc⟩
  · exact .inl (List.eq_nil_of_length_eq_zero h0)
  · cases hv
    refine .inr ⟨g, 0, rfl, (Array.getElem?_eq_some_iff.1 hg).1, .inr ⟨_, _, hg⟩, fun i x hx' => ⟨?_, hx x (List.mem_of_getElem? hx')⟩⟩
    have h1 : (bs.map B8)[i]? = some (B8 x) := by rw [List.getElem?_map, hx']; rfl
    have h2 : i < bs.length := (List.getElem?_eq_some_iff.1 hx').1
    rw [← hc, List.getElem?_take, if_pos (by omega)] at h1
    simp only [Nat.zero_add, World.cell?, hg]
    simpa [B8] using h1

theorem owns_cut {W : World} {base m : Nat} {e : TypeId} {v : Value} {xs : List Value} (h : W.ownsRow base e 1 v m xs) (hm : 0 < m) : ∃ g c, v = .slice (some ⟨g, 0, none⟩) m c := by
  rcases h.2 with ⟨_, h0⟩ | ⟨g, cap, cur, hv, _⟩
  · omega
  · exact ⟨g, cap, hv⟩

end Go.Proofs.Ytjbfbdnibnmfgaa
namespace Go.Proofs.Ytjbfbdnibnmfgaa
open Go.RowKit
set_option linter.unusedVariables false

theorem pair_slr (W : World) (a0 a1 : Option Addr) (c0 c1 : Nat) (x0 x1 : List Nat) (h0 : Sl W a0 x0) (h1 : Sl W a1 x1) (l0 : x0.length ≤ maxLen) (l1 : x1.length ≤ maxLen) :
    SlR (W.alloc (.cells #[.slice a0 x0.length c0, .slice a1 x1.length c1] 28)) (some ⟨W.heap.size, 0, none⟩) [x0, x1] := by
  have hB : Below W.heap.size W (W.alloc (.cells #[.slice a0 x0.length c0, .slice a1 x1.length c1] 28)) := (Below.refl _ _).alloc (Nat.le_refl _) _
  refine .inr ⟨_, _, rfl, by simp, fun i r hx => ?_⟩
  match i, hx with
  | 0, hx => simp at hx; subst hx; exact ⟨a0, c0, by simp, h0.below hB, l0⟩
  | 1, hx => simp at hx; subst hx; exact ⟨a1, c1, by simp, h1.below hB, l1⟩
  | n + 2, hx => simp at hx

theorem two_any (a0 a1 : Option Addr) (c0 c1 : Nat) (x0 x1 : List Nat) (w : World) (h0 : Sl w a0 x0) (h1 : Sl w a1 x1) (hl : x0.length + x1.length ≤ 140737488355328) :
    Calls Try.prog 43 #[.slice a0 x0.length c0, .slice a1 x1.length c1] w fun e w' => ∃ u, e = .returned u ∧ w'.ownsRow w.heap.size 5 1 u (x0.length + x1.length) ((x0 ++ x1).map B8) ∧ Below w.heap.size w w' := by
  have hB : Below w.heap.size w (w.alloc (.cells #[.slice a0 x0.length c0, .slice a1 x1.length c1] 28)) := (Below.refl _ _).alloc (Nat.le_refl _) _
  have hj := join_any (some ⟨w.heap.size, 0, none⟩) 2 [x0, x1] _ (pair_slr w a0 a1 c0 c1 x0 x1 h0 h1 (by unfold maxLen; omega) (by unfold maxLen; omega)) (by simp) (by simpa using hl)
  rw [show [x0, x1].flatten = x0 ++ x1 by simp, show [x0, x1].length = 2 from rfl] at hj
  have HJ := hide hj
  have HB := hide hB
  clear hj hB h0 h1
  go_enter Try.func43, Try.ntmps43
  go_wp2_with (go_at_call 72; refine (unhide HJ).mono ?_; rintro e w' ⟨u, rfl, hO, hB2⟩)
  go_ret
  exact ⟨u, rfl, by simpa using ownsRow_base (base' := w.heap.size) hO (by simp), bseq HB.out hB2⟩


end Go.Proofs.Ytjbfbdnibnmfgaa
namespace Go.Proofs.Ytjbfbdnibnmfgaa
open Go.RowKit Go.Shelf
set_option linter.unusedVariables false

theorem nm_0 (w : World) : (Instr.index 9 (.string ⟨#[86, 69, 76, 76, 85, 77, 48, 49]⟩) (.int .i64 0)).run Try.prog w = .ok (.int .u8 86) w := by kernel_rfl
theorem nm_1 (w : World) : (Instr.index 9 (.string ⟨#[86, 69, 76, 76, 85, 77, 48, 49]⟩) (.int .i64 1)).run Try.prog w = .ok (.int .u8 69) w := by kernel_rfl
theorem nm_2 (w : World) : (Instr.index 9 (.string ⟨#[86, 69, 76, 76, 85, 77, 48, 49]⟩) (.int .i64 2)).run Try.prog w = .ok (.int .u8 76) w := by kernel_rfl
theorem nm_3 (w : World) : (Instr.index 9 (.string ⟨#[86, 69, 76, 76, 85, 77, 48, 49]⟩) (.int .i64 3)).run Try.prog w = .ok (.int .u8 76) w := by kernel_rfl
theorem nm_4 (w : World) : (Instr.index 9 (.string ⟨#[86, 69, 76, 76, 85, 77, 48, 49]⟩) (.int .i64 4)).run Try.prog w = .ok (.int .u8 85) w := by kernel_rfl
theorem nm_5 (w : World) : (Instr.index 9 (.string ⟨#[86, 69, 76, 76, 85, 77, 48, 49]⟩) (.int .i64 5)).run Try.prog w = .ok (.int .u8 77) w := by kernel_rfl
theorem nm_6 (w : World) : (Instr.index 9 (.string ⟨#[86, 69, 76, 76, 85, 77, 48, 49]⟩) (.int .i64 6)).run Try.prog w = .ok (.int .u8 48) w := by kernel_rfl
theorem nm_7 (w : World) : (Instr.index 9 (.string ⟨#[86, 69, 76, 76, 85, 77, 48, 49]⟩) (.int .i64 7)).run Try.prog w = .ok (.int .u8 49) w := by kernel_rfl
theorem nm_at (k v : Nat) (hk : sbName[k]? = some v) (w : World) : (Instr.index 9 (.string ⟨#[86, 69, 76, 76, 85, 77, 48, 49]⟩) (.int .i64 (k : Int))).run Try.prog w = .ok (.int .u8 (v : Int)) w := by
  have h8 : k < 8 := (List.getElem?_eq_some_iff.1 hk).1
  obtain rfl | rfl | rfl | rfl | rfl | rfl | rfl | rfl : k = 0 ∨ k = 1 ∨ k = 2 ∨ k = 3 ∨ k = 4 ∨ k = 5 ∨ k = 6 ∨ k = 7 := by omega
  · simp [sbName] at hk
    subst hk
    exact nm_0 w
  · simp [sbName] at hk
    subst hk
    exact nm_1 w
  · simp [sbName] at hk
    subst hk
    exact nm_2 w
  · simp [sbName] at hk
    subst hk
    exact nm_3 w
  · simp [sbName] at hk
    subst hk
    exact nm_4 w
  · simp [sbName] at hk
    subst hk
    exact nm_5 w
  · simp [sbName] at hk
    subst hk
    exact nm_6 w
  · simp [sbName] at hk
    subst hk
    exact nm_7 w
theorem sb_cap (v : Nat) (hv : v ∈ sbName) : v < 256 := by
  revert hv
  unfold sbName
  simp
  omega
set_option maxHeartbeats 400000 in
theorem text_any (w : World) : Calls Try.prog 42 #[.string ⟨#[86, 69, 76, 76, 85, 77, 48, 49]⟩] w fun e w' => ∃ u, e = .returned u ∧ w'.ownsRow w.heap.size 5 1 u 8 (sbName.map B8) ∧ Below w.heap.size w w' := by
  obtain ⟨i0, hi, hz0, hz1, hz2⟩ := info_parts Try.info5
  have l8 : sbName.length = 8 := rfl
  have L8 := hide l8
  clear l8
  go_enter Try.func42, Try.ntmps42
  go_wp2
  go_loopw [3, 4] (fun u i wr => ∃ (k : Nat), k ≤ 8 ∧ i = .int .i64 k ∧ wr.ownsRow w.heap.size 5 1 u k ((sbName.take k).map B8) ∧ Below w.heap.size w wr)
    (fun _ i _ => 8 - (intOf i).toNat)
  case atStart => exact ⟨0, by omega, rfl, World.ownsRow_nil _ _ _ _, Below.refl _ _⟩
  case round =>
    obtain ⟨k, hk, rfl, hown, hB⟩ := hrel
    have HO := hide hown
    have HB := hide hB
    have hsz := hB.size
    clear hown hB
    by_cases hlt : k < 8
    · have kI : (k : Int) < 8 := by omega
      obtain ⟨x, hx⟩ : ∃ x, sbName[k]? = some x := ⟨_, List.getElem?_eq_getElem (by rw [L8.out]; exact hlt)⟩
      have ix := fun W => nm_at k x hx W
      have HX := hide hx
      clear hx
      go_wp2_with (at_builtin; refine wpList_append_own _ rfl _ _ 28 rfl w.heap.size 5 i0 (.int .u8 0) 1 1 Try.underlying28 hi hz0 hz1 hz2 rfl (by omega) _ _ _ rfl (HO.out.alloc _) ⟨wr.heap.size, 0, none⟩ 1 1 [.int .u8 (x : Int)] rfl rfl (cell_one_new _ _ _) (by simp [Value.oneCell']) (by unfold maxLen; omega) (by omega) (by simp; omega) ?_; intro v3 w3 hown3 hgrow3 _)
      have HO3 := hide hown3
      have HB3 : Hid (Below w.heap.size w w3) := (HB.out.alloc (by omega) _).grown hgrow3 (by simp; omega) (fun j e => (HO.out.lt j e).1)
      clear hown3 hgrow3
      go_wp2
      go_roundw
      case rel =>
        refine ⟨k + 1, by omega, by go_num, ?_, HB3.out⟩
        rw [List.take_add_one, HX.out]
        simpa [B8] using HO3.out
      case measure => simp [intOf]; omega
    · have hkk : k = 8 := by omega
      subst hkk
      go_wp2
      go_ret
      have h := HO.out
      rw [List.take_of_length_le (by rw [L8.out]; omega)] at h
      exact ⟨_, rfl, h, HB.out⟩
theorem rsum_any (a : Option Addr) (cap : Nat) (bs : List Nat) (w : World) (hg : Sl w a bs) (hl : bs.length ≤ maxLen) :
    Calls Try.prog 45 #[.slice a bs.length cap] w fun e w' => e = .returned (.int .u32 (moreV 0 bs)) ∧ w' = w := by
  have CE := hide (refMore_any 0 a cap bs w (by omega) hg hl)
  go_enter Try.func45, Try.ntmps45
  go_wp2_with (go_at_call 73; refine (unhide CE).mono ?_; rintro e w' ⟨rfl, hw'⟩; replace hw' := hw'.symm; subst hw')
  go_ret
  exact ⟨rfl, rfl⟩
/-- What Little and Two make, as slices. -/
theorem little_sl (v : Nat) (w : World) (hv : v < 18446744073709551616) :
    Calls Try.prog 44 #[.int .u64 v, .int .i64 8] w fun e w' => ∃ a c, e = .returned (.slice a 8 c) ∧ Sl w' a (leB 8 v) ∧ Below w.heap.size w w' := by
  refine (little_any v 8 w hv (by omega)).mono ?_
  rintro e w' ⟨u, rfl, ho, hb⟩
  obtain ⟨a, c, h1, h2⟩ := sl_of_owns (bs := leB 8 v) (by rw [leB_length]; exact ho) (leB_lt 8 v)
  rw [leB_length] at h1
  exact ⟨a, c, by rw [h1], h2, hb⟩
theorem two_sl (a0 a1 : Option Addr) (c0 c1 n m : Nat) (x0 x1 : List Nat) (w : World) (h0 : Sl w a0 x0) (h1 : Sl w a1 x1) (hn : x0.length = n) (hm : x1.length = m) (hl : n + m ≤ 1000) :
    Calls Try.prog 43 #[.slice a0 n c0, .slice a1 m c1] w fun e w' => ∃ a c, e = .returned (.slice a (n + m) c) ∧ Sl w' a (x0 ++ x1) ∧ Below w.heap.size w w' := by
  subst hn
  subst hm
  refine (two_any a0 a1 c0 c1 x0 x1 w h0 h1 (by omega)).mono ?_
  rintro e w' ⟨u, rfl, ho, hb⟩
  obtain ⟨a, c, e1, e2⟩ := sl_of_owns (bs := x0 ++ x1) (by rw [List.length_append]; exact ho) (fun x hx => (List.mem_append.1 hx).elim (h0.lt x) (h1.lt x))
  rw [List.length_append] at e1
  exact ⟨a, c, by rw [e1], e2, hb⟩
theorem index_i (g i len cap : Nat) (hi : i < len) (w : World) : (Instr.indexAt 56 (.slice (some ⟨g, 0, none⟩) len cap) (.int .i64 (i : Int))).run Try.prog w = .ok (.pointer (some ⟨g, i, none⟩)) w := by
  have h := index_at (t := 56) (e := 3) (sz := 1) Try.underlying56 (by kernel_rfl) g 0 i len cap hi w
  rwa [Nat.zero_add, Nat.mul_one] at h
theorem six_cell {W : World} {g N q k v : Nat} (h : W.heap[g]? = some (.cells #[.int .i64 (N : Int), .int .i64 128, .int .i64 32768, .int .i64 32896, .int .i64 (q : Int), .int .i64 0] 3 (0, 0))) (hk : (sbN N q)[k]? = some v) : W.cell? ⟨g, k, none⟩ = some (.int .i64 (v : Int)) := by
  rw [cell8 h]
  have h6 : k < 6 := (List.getElem?_eq_some_iff.1 hk).1
  obtain rfl | rfl | rfl | rfl | rfl | rfl : k = 0 ∨ k = 1 ∨ k = 2 ∨ k = 3 ∨ k = 4 ∨ k = 5 := by omega
  all_goals
    simp [sbN] at hk
    subst hk
    rfl
set_option maxRecDepth 100000 in
set_option maxHeartbeats 1000000 in
theorem rline_nat (N q : Nat) (w : World) (h : okS (N : Int)) (hq : ((N : Int) - 32896) / 256 = (q : Int)) :
    Calls Try.prog 11 #[.agg #[.int .i64 (N : Int), .int .i64 128, .int .i64 32768, .int .i64 32896, .int .i64 (q : Int)]] w fun e w' => ∃ a c, e = .returned (.tuple #[.slice a 64 c, .int .i64 0]) ∧ Sl w' a (sbB N q) ∧ Below w.heap.size w w' := by
  have kp : ∀ W, Calls Try.prog 9 #[.int .i64 (N : Int)] W fun e w' => e = .returned (.tuple #[.agg #[.int .i64 (N : Int), .int .i64 128, .int .i64 32768, .int .i64 32896, .int .i64 (q : Int)], .int .i64 0]) ∧ Below W.heap.size W w' := fun W => by
    have k := rplan_ok (N : Int) W h
    unfold plC suC at k
    rw [hq] at k
    exact k
  obtain ⟨h1, h2, h3⟩ := h
  have hN : N ≤ 4194304 := by omega
  have hq2 : q ≤ 4194304 := by omega
  have hg := Try.noGuard23
  have he := fun W => eql_su (N : Int) 128 32768 32896 (q : Int) (N : Int) 128 32768 32896 (q : Int) W
  have hs : sameS (N : Int) 128 32768 32896 (q : Int) (N : Int) 128 32768 32896 (q : Int) = true := by simp [sameS]
  rw [hs] at he
  have KP := hide kp
  have HN := hide hN
  have HQ := hide hq2
  clear kp hN hq2 hq h1 h2 h3 hs
  go_enter Try.func11, Try.ntmps11
  go_wp2_with (first
    | (go_at_call 9; refine (KP.out _).mono ?_; rintro e W1 ⟨rfl, hB1⟩; have hb0 := row_after hB1; obtain ⟨c0, c1, c2, c3, c4⟩ := suBox hb0; obtain ⟨k0, k1, k2, k3, k4⟩ := suBox (row_keep hb0 ((Below.refl _ W1).alloc (Nat.le_refl _) (.cells #[.int .i64 (N : Int), .int .i64 128, .int .i64 32768, .int .i64 32896, .int .i64 (q : Int)] 23))); have h1 := ((Below.refl _ w).alloc (Nat.le_refl _) (.cells #[.int .i64 (N : Int), .int .i64 128, .int .i64 32768, .int .i64 32896, .int .i64 (q : Int)] 23)).trans (hB1.mono (by simp)); have HB1 := hide (h1.alloc (o := .cells #[.int .i64 (N : Int), .int .i64 128, .int .i64 32768, .int .i64 32896, .int .i64 (q : Int)] 23) h1.size); have HB0 := hide (row_keep hb0 ((Below.refl _ W1).alloc (Nat.le_refl _) (.cells #[.int .i64 (N : Int), .int .i64 128, .int .i64 32768, .int .i64 32896, .int .i64 (q : Int)] 23))); clear hB1 hb0 h1)
    | (go_at_call 42; refine (text_any _).mono ?_; rintro e W2 ⟨u, rfl, ho2, hB2⟩; obtain ⟨a2, cp2, hu, hsl⟩ := sl_of_owns (bs := sbName) ho2 sb_cap; replace hu := (show u = .slice a2 8 cp2 from hu); subst hu; obtain ⟨j0, j1, j2, j3, j4⟩ := suBox (row_keep HB0.out hB2); have HB2 := hide (HB1.out.trans (hB2.mono HB1.out.size)); have HS2 := hide hsl; clear ho2 hsl hB2))
  have hnew : (W2.alloc (.cells #[.int .i64 (N : Int), .int .i64 128, .int .i64 32768, .int .i64 32896, .int .i64 (q : Int), .int .i64 0] 3)).heap[W2.heap.size]? = some (.cells #[.int .i64 (N : Int), .int .i64 128, .int .i64 32768, .int .i64 32896, .int .i64 (q : Int), .int .i64 0] 3 (0, 0)) := heap_alloc_new W2 _
  have hsl3 : Sl (W2.alloc (.cells #[.int .i64 (N : Int), .int .i64 128, .int .i64 32768, .int .i64 32896, .int .i64 (q : Int), .int .i64 0] 3)) a2 (sbPre N q 0) := HS2.out.below ((Below.refl _ W2).alloc (Nat.le_refl _) _)
  have hb3 : Below w.heap.size w (W2.alloc (.cells #[.int .i64 (N : Int), .int .i64 128, .int .i64 32768, .int .i64 32896, .int .i64 (q : Int), .int .i64 0] 3)) := HB2.out.alloc HB2.out.size _
  have HNEW := hide hnew
  have HS3 := hide hsl3
  have HB3 := hide hb3
  clear hnew hsl3 hb3
  go_loopw [6, 8] (fun bv iv wr => ∃ (k : Nat) (a : Option Addr) (c : Nat), k ≤ 6 ∧ iv = .int .i64 (k : Int) ∧ bv = .slice a (8 + 8 * k) c ∧ Sl wr a (sbPre N q k) ∧ wr.heap[W2.heap.size]? = some (.cells #[.int .i64 (N : Int), .int .i64 128, .int .i64 32768, .int .i64 32896, .int .i64 (q : Int), .int .i64 0] 3 (0, 0)) ∧ Below w.heap.size w wr) (fun bv iv _ => (6 - (intOf iv).toNat))
  case atStart => exact ⟨0, a2, cp2, by omega, rfl, rfl, HS3.out, HNEW.out, HB3.out⟩
  case round =>
    clear HNEW HS3 HB3 c0 c1 c2 c3 c4 k0 k1 k2 k3 k4 j0 j1 j2 j3 j4
    obtain ⟨k, a, c, hk, rfl, rfl, hO, hZ, hB⟩ := hrel
    have hOl := sbPre_len N q k hk
    by_cases hlt : k < 6
    · have kI : (k : Int) < 6 := by omega
      obtain ⟨v, hv⟩ : ∃ v, (sbN N q)[k]? = some v := ⟨_, List.getElem?_eq_getElem hlt⟩
      have hv2 := sbN_lt HN.out HQ.out hv
      have wv : IntKind.u64.wrap (v : Int) = (v : Int) := by rw [IntKind.wrap_u64]; omega
      have cv := six_cell hZ hv
      have ix := fun X => index_i W2.heap.size k 6 6 hlt X
      have HV := hide hv
      have HV2 := hide hv2
      have HZ1 := hide hZ
      have HB := hide hB
      have HO := hide hO
      have HOL := hide hOl
      clear hO hZ hB hOl hv hv2
      go_wp2_with (first
        | (go_at_call 44; refine (little_sl v wr (by have := HV2.out; omega)).mono ?_; rintro e w1 ⟨a1, cc1, rfl, hs1, hb1⟩; have KT := hide (two_sl a a1 c cc1 (8 + 8 * k) 8 (sbPre N q k) (leB 8 v) w1 (HO.out.below hb1) hs1 HOL.out (leB_length 8 v) (by omega)); have HB1' := hide hb1; clear hs1 hb1)
        | (go_at_call 43; refine (KT.out).mono ?_; rintro e w2 ⟨a2', cc2, rfl, hs2, hb2⟩; have HS2' := hide hs2; have HB2' := hide (bseq HB1'.out hb2); clear hs2 hb2))
      go_roundw
      case rel =>
        refine ⟨k + 1, a2', cc2, by omega, int_congrP (by omega), by rw [show 8 + 8 * (k + 1) = 8 + 8 * k + 8 by omega], ?_, (HB2'.out.block _ (lt_of_heap HZ1.out)).trans HZ1.out, HB.out.trans (HB2'.out.mono HB.out.size)⟩
        rw [sbPre_succ N q k v HV.out]
        exact HS2'.out
      case measure => simp [intOf]; omega
    · obtain rfl : k = 6 := by omega
      have ks := rsum_any a c (sbPre N q 6) wr hO (by rw [hOl]; unfold maxLen; omega)
      rw [hOl] at ks
      obtain ⟨m, hm⟩ : ∃ m, m = moreV 0 (sbPre N q 6) := ⟨_, rfl⟩
      have hm2 : m < 4294967296 := by rw [hm]; exact moreV_lt 0 _ (by omega) (sbPre_lt N q 6)
      rw [← hm] at ks
      have wm : IntKind.u64.wrap (m : Int) = (m : Int) := by rw [IntKind.wrap_u64]; omega
      have KS := hide ks
      have HB := hide hB
      have HO := hide hO
      have HOL := hide hOl
      have HM := hide hm
      have HM2 := hide hm2
      clear hO hZ hB hOl hm hm2 ks
      go_wp2_with (first
        | (go_at_call 45; refine (KS.out).mono ?_; rintro e w1 ⟨rfl, hw⟩; obtain rfl := hw.symm)
        | (go_at_call 44; refine (little_sl m wr (by have := HM2.out; omega)).mono ?_; rintro e w1 ⟨a1, cc1, rfl, hs1, hb1⟩; have KT := hide (two_sl a a1 c cc1 56 8 (sbPre N q 6) (leB 8 m) w1 (HO.out.below hb1) hs1 HOL.out (leB_length 8 m) (by omega)); have HB1' := hide hb1; clear hs1 hb1)
        | (go_at_call 43; refine (KT.out).mono ?_; rintro e w2 ⟨a2', cc2, rfl, hs2, hb2⟩; have HS2' := hide hs2; have HB2' := hide (bseq HB1'.out hb2); clear hs2 hb2))
      go_ret2
      refine ⟨a2', cc2, rfl, ?_, HB.out.trans (HB2'.out.mono HB.out.size)⟩
      unfold sbB
      rw [← HM.out]
      exact HS2'.out
end Go.Proofs.Ytjbfbdnibnmfgaa
namespace Go.Proofs.Ytjbfbdnibnmfgaa
open Go.RowKit Go.Shelf
set_option linter.unusedVariables false

def nmU : List UInt8 := [86, 69, 76, 76, 85, 77, 48, 49]
theorem sb_name (x : Int) (j : Nat) (hj : j < nmU.length) : (sbX x)[j]? = some (nmU[j]).toNat := by
  have h : (sbX x)[j]? = sbName[j]? := by
    unfold sbX sbB sbPre
    have l8 : sbName.length = 8 := rfl
    have l9 : nmU.length = 8 := rfl
    rw [List.append_assoc, List.getElem?_append_left (by omega)]
  rw [h]
  have l9 : nmU.length = 8 := rfl
  obtain rfl | rfl | rfl | rfl | rfl | rfl | rfl | rfl : j = 0 ∨ j = 1 ∨ j = 2 ∨ j = 3 ∨ j = 4 ∨ j = 5 ∨ j = 6 ∨ j = 7 := by omega
  all_goals rfl
theorem OwnL.cell {w : World} {g : Nat} {bs : List Nat} (h : OwnL w g bs) (i x : Nat) (hx : bs[i]? = some x) : w.cell? ⟨g, i, none⟩ = some (.int .u8 (x : Int)) := by
  rw [cell8 h]
  simp [hx, B8]
theorem name_str {w : World} {g : Nat} {x : Int} (cap : Nat) (h : OwnL w g (sbX x)) : (convert 28 9 (.slice (some ⟨g, 0, none⟩) 8 cap)).run Try.prog w = .ok (.string ⟨#[86, 69, 76, 76, 85, 77, 48, 49]⟩) w := by
  refine run_convert_bytes_back (P := Try.prog) w 28 9 5 ⟨g, 0, none⟩ cap nmU Try.underlying28 Try.underlying5 Try.underlying9 (fun j hj => ?_)
  have e := h.cell j _ (sb_name x j hj)
  rw [Addr.add_mid, Nat.zero_add]
  exact e
theorem sb_8 : (sbX 36992)[8]? = some 128 ∧ (sbX 36992)[9]? = some 144 := by decide +kernel
set_option maxRecDepth 100000 in
set_option maxHeartbeats 400000 in
theorem works_any (w : World) : Calls Try.prog 14 #[] w fun e w' => e = .returned (.bool true) ∧ Below w.heap.size w w' := by
  have hk : okS 36992 := by unfold okS; omega
  have kp : ∀ W, Calls Try.prog 8 #[.int .i64 36992] W fun e w' => e = .returned (.tuple #[.agg #[.int .i64 36992, .int .i64 128, .int .i64 32768, .int .i64 32896, .int .i64 16], .int .i64 0]) ∧ Below W.heap.size W w' := fun W => plan_ok 36992 W hk
  have kl : ∀ W, Calls Try.prog 10 #[.agg #[.int .i64 36992, .int .i64 128, .int .i64 32768, .int .i64 32896, .int .i64 16]] W fun e w' => ∃ g, e = .returned (.tuple #[.slice (some ⟨g, 0, none⟩) 64 64, .int .i64 0]) ∧ OwnL w' g (sbX 36992) ∧ W.heap.size ≤ g ∧ Below W.heap.size W w' := fun W => line_ok 36992 W hk
  have s8 := sb_8
  have hg := Try.noGuard23
  have he := fun W => eql_su 36992 128 32768 32896 16 36992 128 32768 32896 16 W
  have hs : sameS 36992 128 32768 32896 16 36992 128 32768 32896 16 = true := by simp [sameS]
  rw [hs] at he
  have nm := fun W g cap h => name_str (w := W) (g := g) (x := 36992) cap h
  generalize sbX 36992 = sb at *
  have KP := hide kp
  have KL := hide kl
  have NM := hide nm
  have S8 := hide s8
  clear kp kl nm s8 hs hk
  go_enter Try.func14, Try.ntmps14
  go_wp2_with (first
    | (go_at_call 8; refine (KP.out _).mono ?_; rintro e W1 ⟨rfl, hB1⟩; have HB1 := hide hB1; clear hB1)
    | (go_at_call 10; refine (KL.out _).mono ?_; rintro e W2 ⟨g, rfl, ho2, hg2, hB2⟩; obtain ⟨c0, c1, c2, c3, c4⟩ := suBox (row_after hB2); have b8 := ho2.cell 8 _ S8.out.1; have b9 := ho2.cell 9 _ S8.out.2; have nm := NM.out W2 g 64 ho2; have h1 := HB1.out.alloc (o := .cells #[.int .i64 36992, .int .i64 128, .int .i64 32768, .int .i64 32896, .int .i64 16] 23) HB1.out.size; have HB2 := hide (h1.trans (hB2.mono h1.size)); clear ho2 hg2 hB2 h1))
  go_ret
  exact ⟨by simp, HB2.out⟩
end Go.Proofs.Ytjbfbdnibnmfgaa
namespace Go.Proofs.Ytjbfbdnibnmfgaa
open Go.RowKit
set_option linter.unusedVariables false

/-- A block of type t holds these bytes. -/
def OwnT (t : TypeId) (w : World) (g : Nat) (bs : List Nat) : Prop := w.heap[g]? = some (.cells (bs.map B8).toArray t (0, 0))
section
variable {t : TypeId}
theorem OwnT.lt {w : World} {g : Nat} {bs : List Nat} (h : OwnT t w g bs) : g < w.heap.size := (Array.getElem?_eq_some_iff.1 h).1
theorem OwnT.frozen {w : World} {g : Nat} {bs : List Nat} (h : OwnT t w g bs) (i : Nat) : w.frozen? ⟨g, i, none⟩ = false := by simp [World.frozen?, show w.heap[g]? = _ from h]
theorem OwnT.cell {w : World} {g : Nat} {bs : List Nat} (h : OwnT t w g bs) (i x : Nat) (hx : bs[i]? = some x) : w.cell? ⟨g, i, none⟩ = some (.int .u8 (x : Int)) := by
  simp [World.cell?, show w.heap[g]? = _ from h, hx, B8]
theorem OwnT.of_block {w w' : World} {g : Nat} {bs : List Nat} (h : OwnT t w g bs) (e : w'.heap[g]? = w.heap[g]?) : OwnT t w' g bs := e.trans h
theorem OwnT.below {B : Nat} {w w' : World} {g : Nat} {bs : List Nat} (h : OwnT t w g bs) (hb : Below B w w') (hg : g < B) : OwnT t w' g bs := h.of_block (hb.block g hg)
theorem OwnT.set {w : World} {g : Nat} {bs : List Nat} (h : OwnT t w g bs) (i x : Nat) : OwnT t (w.setCell ⟨g, i, none⟩ (.int .u8 (x : Int))) g (bs.set i x) := by
  unfold OwnT at *
  simp only [World.setCell, Array.getElem?_modify, h]
  simp [B8, List.map_set]
theorem OwnT.other {w : World} {g g' i : Nat} {bs : List Nat} {v : Value} (h : OwnT t w g bs) (hne : g ≠ g') : OwnT t (w.setCell ⟨g', i, none⟩ v) g bs := by
  unfold OwnT at *
  simp only [World.setCell, Array.getElem?_modify, h]
  rw [if_neg (fun e => hne e.symm)]
/-- Block G j holds the bytes R j, for each of the first n that is no nil. -/
def OwnsT (t : TypeId) (A : Nat → Option Addr) (W : World) (n : Nat) (G : Nat → Nat) (R : Nat → List Nat) : Prop := ∀ j, j < n → A j = some ⟨G j, 0, none⟩ → OwnT t W (G j) (R j)
variable {A : Nat → Option Addr}
theorem OwnsT.step {W : World} {n i o : Nat} {G : Nat → Nat} {R : Nat → List Nat} {v : Value} {r : List Nat} (h : OwnsT t A W n G R) (hi : i < n) (hinj : ∀ j, j < n → j ≠ i → G j ≠ G i) (hr : OwnT t (W.setCell ⟨G i, o, none⟩ v) (G i) r) :
    OwnsT t A (W.setCell ⟨G i, o, none⟩ v) n G (fun j => if j = i then r else R j) := by
  intro j hj ha
  by_cases e : j = i
  · subst e; simpa using hr
  · simp only [if_neg e]; exact (h j hj ha).other (hinj j hj e)
theorem OwnsT.congr {W : World} {n : Nat} {G : Nat → Nat} {R R' : Nat → List Nat} (h : OwnsT t A W n G R) (e : ∀ j, j < n → R j = R' j) : OwnsT t A W n G R' := fun j hj ha => by rw [← e j hj]; exact h j hj ha
theorem ownT_at {w : World} {g : Nat} {bs : List Nat} (h : OwnT t w g bs) (o : Obj) (j : Nat) (u : Value) (hu : (bs.map B8)[j]? = some u) : (w.alloc o).cell? ((⟨g, 0, none⟩ : Addr).add j) = some u := by
  rw [List.getElem?_map] at hu
  obtain ⟨x, hx, rfl⟩ := Option.map_eq_some_iff.1 hu
  have h2 : OwnT t (w.alloc o) g bs := h.of_block (heap_alloc_old w o h.lt)
  rw [Addr.add_lit, Nat.zero_add]
  exact h2.cell j x hx
end
theorem markT_sum (i l q : Nat) (w : World) (hi : i ≤ 1000000000000) (hk : l + q ≤ 1000000000000000) :
    Calls Try.prog 46 #[.int .i64 i, .int .i64 ((l : Int) + (q : Int))] w fun e w' => e = .returned (.int .u8 ((markOf i (l + q) : Nat) : Int)) ∧ w' = w := by
  have h := mark_any i (l + q) w hi hk
  rw [show ((l + q : Nat) : Int) = (l : Int) + (q : Int) by omega] at h
  exact h
set_option maxRecDepth 100000 in
set_option maxHeartbeats 4000000 in
theorem apart_gen (t : TypeId) (A : Nat → Option Addr) (b off n cap base : Nat) (G L : Nat → Nat) (R : Nat → List Nat) (w : World) (hn : n ≤ 1000000) (hb : b < w.heap.size)
    (hcell : ∀ j, j < n → w.cell? ⟨b, off + j, none⟩ = some (.slice (A j) (L j) (L j))) (hA : ∀ j, j < n → A j = some ⟨G j, 0, none⟩ ∨ A j = none ∧ L j = 0) (hL : ∀ j, j < n → (R j).length = L j) (hlen : ∀ j, j < n → L j ≤ 140737488351300)
    (hO : OwnsT t A w n G R) (hbase : ∀ j, j < n → base ≤ G j) (hle : base ≤ w.heap.size) (hbG : ∀ j, j < n → b ≠ G j) (hinj : ∀ i, i < n → ∀ j, j < n → j ≠ i → G j ≠ G i) :
    Calls Try.prog 13 #[.slice (some ⟨b, off, none⟩) n cap] w fun e w' => e = .returned (.bool true) ∧ Below base w w' := by
  obtain ⟨i0, hi, hz0, hz1, hz2⟩ := info_parts Try.info5
  obtain ⟨i1, hj, hy0, hy1, hy2⟩ := info_parts Try.info22
  have HC := hide hcell
  have HA := hide hA
  clear hA
  have HL := hide hL
  have HLN := hide hlen
  have HBS := hide hbase
  have HBG := hide hbG
  have HIN := hide hinj
  clear hcell hL hlen hbase hbG hinj
  go_enter Try.func13, Try.ntmps13
  go_wp2
  go_loopw [3] (fun i wr => ∃ k : Nat, k ≤ n ∧ i = .int .i64 k ∧ OwnsT t A wr n G (fun j => if j < k then marksOf j (L j) else R j) ∧ Below base w wr ∧ wr.heap[b]? = w.heap[b]? ∧ wr.heap.size = w.heap.size) (fun i _ => n - (intOf i).toNat)
  case atStart => exact ⟨0, by omega, rfl, hO.congr (fun j _ => by simp), Below.refl _ _, rfl, rfl⟩
  case round =>
    clear hO
    obtain ⟨i, hin, rfl, hO1, hB1, hb1, hs1⟩ := hrel
    have HO1 := hide hO1
    have HB1 := hide hB1
    have Hb1 := hide hb1
    have Hs1 := hide hs1
    clear hO1 hB1 hb1 hs1
    by_cases hlt : i < n
    · have hii : (i : Int) < (n : Int) := by omega
      have hLi := HLN.out i hlt
      have HRi : Hid ((R i).length = L i) := HL.out i hlt
      have HCi := hide (HC.out i hlt)
      have HIi := hide (HIN.out i hlt)
      have HBi := hide (HBS.out i hlt)
      have HGi := hide (HBG.out i hlt)
      have HAi := hide (HA.out i hlt)
      generalize hLe : L i = li at HRi HCi hLi HAi
      have HLe := hide hLe
      clear hLe
      go_wp2
      go_loopw [4] (fun k wr => ∃ q : Nat, q ≤ li ∧ k = .int .i64 q ∧ OwnsT t A wr n G (fun j => if j = i then mixed (marksOf i li) (R i) q else if j < i then marksOf j (L j) else R j) ∧ Below base w wr ∧ wr.heap[b]? = w.heap[b]? ∧ wr.heap.size = w.heap.size) (fun k _ => li - (intOf k).toNat)
      case atStart =>
        refine ⟨0, by omega, rfl, HO1.out.congr (fun j _ => ?_), HB1.out, Hb1.out, Hs1.out⟩
        by_cases e : j = i
        · subst e; simp [mixed_zero]
        · simp [e]
      case round =>
        obtain ⟨q, hq, rfl, hO2, hB2, hb2, hs2⟩ := hrel
        have hc : wr.cell? ⟨b, off + i, none⟩ = some (.slice (A i) li li) := (World.cell?_of_block (a := ⟨b, off + i, none⟩) hb2).trans HCi.out
        have HO2 := hide hO2
        have HB2 := hide hB2
        have Hb2 := hide hb2
        have Hs2 := hide hs2
        clear hO2 hB2 hb2 hs2
        by_cases hql : q < li
        · have hqi : (q : Int) < (li : Int) := by omega
          have hAi : A i = some ⟨G i, 0, none⟩ := HAi.out.resolve_right (fun h => by omega)
          have ho : OwnT t wr (G i) (mixed (marksOf i li) (R i) q) := by have h := HO2.out i hlt hAi; simpa using h
          rw [hAi] at hc
          clear hAi
          obtain ⟨x, hx⟩ : ∃ x, (R i)[q]? = some x := ⟨_, List.getElem?_eq_getElem (by rw [HRi.out]; exact hql)⟩
          have hcx := ho.cell q x (by rw [mixed_get _ _ _ (by rw [marksOf_length]; omega)]; exact hx)
          have hf := ho.frozen q
          have HO3 := hide ho
          have hqm : q ≤ 1000000000000000 := by omega
          have him : i ≤ 1000000000000 := by omega
          clear ho hx
          generalize hGe : G i = gi at *
          go_wp2
          go_region_with (go_at_call 46; refine (mark_any i q _ him hqm).mono ?_; rintro e w' ⟨rfl, rfl⟩)
          all_goals
            go_wp2
            go_roundw
            case rel =>
              subst hGe
              refine ⟨q + 1, by omega, by go_num, ?_, (HB2.out.setCell HBi.out _).drew, (block_other HGi.out).trans Hb2.out, ?_⟩
              · have hs := OwnT.set HO3.out q (markOf i q)
                rw [mixed_set _ _ q (markOf i q) (marksOf_get hql) (by rw [HRi.out]; exact hql)] at hs
                exact (OwnsT.step HO2.out hlt HIi.out hs).congr (fun j _ => by by_cases e : j = i <;> simp [e])
              · simpa using Hs2.out
            case measure => simp [intOf]; omega
        · have hqi : (li : Int) ≤ (q : Int) := by omega
          have hqe : q = li := by omega
          have HQ := hide hqe
          clear hqe
          go_wp2
          go_roundw
          case rel =>
            refine ⟨i + 1, by omega, by go_num, HO2.out.congr (fun j _ => ?_), HB2.out, Hb2.out, Hs2.out⟩
            by_cases e : j = i
            · subst e
              rw [if_pos rfl, if_pos (by omega), HQ.out, mixed_all _ _ _ (by rw [marksOf_length]; omega) (by rw [HRi.out]; omega), HLe.out]
            · rw [if_neg e]
              by_cases e2 : j < i
              · rw [if_pos e2, if_pos (by omega)]
              · rw [if_neg e2, if_neg (by omega)]
          case measure => simp [intOf]; omega
    · have hii : (n : Int) ≤ (i : Int) := by omega
      have hie : i = n := by omega
      have HO2 : Hid (OwnsT t A wr n G (fun j => marksOf j (L j))) := HO1.out.congr (fun j hj => by rw [if_pos (by omega)])
      clear HO1 hie HL
      go_wp2
      generalize hw1 : wr = w1 at *
      have HH : Hid (w1.heap.size = w.heap.size) := Hs1
      go_loopw [5, 6] (fun v i wr => ∃ (k : Nat) (cs : List Value), k ≤ n ∧ i = .int .i64 k ∧ cs.length = k ∧ wr.ownsRow w1.heap.size 28 1 v cs.length cs ∧ Ties wr w1.heap.size cs ((List.range k).map fun j => marksOf j (L j + 70)) ∧ Below w1.heap.size w1 wr)
        (fun _ i _ => n - (intOf i).toNat)
      case atStart => exact ⟨0, [], by omega, rfl, rfl, World.ownsRow_nil _ _ _ _, Ties.nil _ _, Below.refl _ _⟩
      case round =>
        obtain ⟨k, cs, hk, rfl, hcs, hown, ht, hB⟩ := hrel
        have HCS := hide hcs
        have HT := hide ht
        have HB := hide hB
        have HO := hide hown
        have hsz := hB.size
        clear hcs ht hB hown
        by_cases hkn : k < n
        · have hki : (k : Int) < (n : Int) := by omega
          have hLk := HLN.out k hkn
          have hbw : b < w1.heap.size := by rw [HH.out]; exact hb
          have hcw : w1.cell? ⟨b, off + k, none⟩ = some (.slice (A k) (L k) (L k)) := (World.cell?_of_block (a := ⟨b, off + k, none⟩) Hb1.out).trans (HC.out k hkn)
          have hcr : wr.cell? ⟨b, off + k, none⟩ = some (.slice (A k) (L k) (L k)) := (HB.out.cell (p := ⟨b, off + k, none⟩) hbw).trans hcw
          have hok : A k = some ⟨G k, 0, none⟩ → OwnT t wr (G k) (marksOf k (L k)) := fun ha => (HO2.out k hkn ha).below HB.out (HO2.out k hkn ha).lt
          have HAk := hide (HA.out k hkn)
          have HOK := hide hok
          have HCR := hide hcr
          clear hcw hok
          generalize hLe : L k = lk at hLk hcr HOK HCR HAk
          have HLe := hide hLe
          clear hLe
          generalize hGe : G k = gk at hcr HOK HCR HAk
          clear hGe
          generalize hAe : A k = ak at hcr HOK HCR HAk
          clear hAe
          go_wp2
          generalize hwo : wr = wo at *
          clear hcr
          go_loopw [7, 8] (fun g x wr => ∃ (q : Nat), q ≤ 70 ∧ x = .int .i64 q ∧ (q = 0 ∧ g = .slice ak lk lk ∨ 0 < q ∧ wr.ownsRow wo.heap.size 5 1 g (lk + q) ((marksOf k (lk + q)).map B8)) ∧ Below wo.heap.size wo wr)
            (fun _ x _ => 70 - (intOf x).toNat)
          case atStart => exact ⟨0, by omega, rfl, .inl ⟨rfl, rfl⟩, Below.refl _ _⟩
          case round =>
            obtain ⟨q, hq, rfl, hg, hB2⟩ := hrel
            have HB2 := hide hB2
            have hsz2 := hB2.size
            have hc2 : wr.cell? ⟨b, off + k, none⟩ = some (.slice ak lk lk) := (hB2.cell (p := ⟨b, off + k, none⟩) (by show b < wo.heap.size; omega)).trans HCR.out
            have HOW : Hid (ak = some ⟨gk, 0, none⟩ → OwnT t wr gk (marksOf k lk)) := fun ha => (HOK.out ha).below hB2 (HOK.out ha).lt
            clear hB2
            by_cases hq70 : q < 70
            · have hqi : (q : Int) < 70 := by omega
              by_cases hq0 : q = 0
              · obtain rfl := (hg.resolve_right (fun h => by omega)).2
                have HQ0 := hide hq0
                clear hq0 hg
                go_wp2_with (first | (go_at_call 46; refine (markT_sum k lk q _ (by omega) (by omega)).mono ?_; rintro e w' ⟨rfl, hw'⟩; replace hw' := hw'.symm; subst hw') | (at_builtin; go_loud (refine wpList_append_grows _ rfl _ _ 28 rfl 5 i0 (.int .u8 0) 1 1 Try.underlying28 hi hz0 hz1 hz2 rfl (by omega) ak lk lk ((marksOf k lk).map B8) rfl (fun h => HAk.out.elim (fun e => by rw [h] at e; cases e) (fun e => ⟨e.2, e.2⟩)) (by simp [marksOf_length]) (fun b' hb' j u hu => HAk.out.elim (fun e => by rw [hb'] at e; cases e; exact ownT_at (HOW.out hb') _ j u hu) (fun e => by rw [hb'] at e; cases e.1)) ⟨wr.heap.size, 0, none⟩ 1 1 [.int .u8 ((markOf k (lk + q) : Nat) : Int)] rfl rfl (cell_one_new _ _ _) (by simp [Value.oneCell']) (by omega) (by unfold maxLen; omega) (by omega) ?_); intro v3 w3 hown3 hgrow3))
                have HO3 := hide hown3
                have HB3 : Hid (Below wo.heap.size wo w3) := (HB2.out.alloc (by omega) _).grown hgrow3 (by simp; omega) (fun j e => by cases e)
                clear hown3 hgrow3
                go_wp2
                go_roundw
                case rel =>
                  refine ⟨q + 1, by omega, by go_num, .inr ⟨by omega, ?_⟩, HB3.out⟩
                  have e := HQ0.out
                  subst e
                  have h := ownsRow_base (base' := wo.heap.size) HO3.out (by simp; omega)
                  rw [marksOf_succ]
                  simpa [B8] using h
                case measure => simp [intOf]; omega
              · have hg2 := (hg.resolve_left (fun h => hq0 h.1)).2
                have HG := hide hg2
                clear hg hg2 hq0
                go_wp2_with (first | (go_at_call 46; refine (markT_sum k lk q _ (by omega) (by omega)).mono ?_; rintro e w' ⟨rfl, hw'⟩; replace hw' := hw'.symm; subst hw') | (at_builtin; refine wpList_append_own _ rfl _ _ 28 rfl wo.heap.size 5 i0 (.int .u8 0) 1 1 Try.underlying28 hi hz0 hz1 hz2 rfl (by omega) _ _ _ rfl (HG.out.alloc _) ⟨wr.heap.size, 0, none⟩ 1 1 [.int .u8 ((markOf k (lk + q) : Nat) : Int)] rfl rfl (cell_one_new _ _ _) (by simp [Value.oneCell']) (by unfold maxLen; omega) (by omega) (by simp; omega) ?_; intro v3 w3 hown3 hgrow3 _))
                have HO3 := hide hown3
                have HB3 : Hid (Below wo.heap.size wo w3) := (HB2.out.alloc (by omega) _).grown hgrow3 (by simp; omega) (fun j e => (HG.out.lt j e).1)
                clear hown3 hgrow3
                go_wp2
                go_roundw
                case rel =>
                  refine ⟨q + 1, by omega, by go_num, .inr ⟨by omega, ?_⟩, HB3.out⟩
                  have h := HO3.out
                  rw [← Nat.add_assoc, marksOf_succ]
                  simpa [B8] using h
                case measure => simp [intOf]; omega
            · have hq7 : q = 70 := by omega
              have hqi : (70 : Int) ≤ (q : Int) := by omega
              have hg2 := (hg.resolve_left (fun h => by omega)).2
              obtain ⟨g3, c3, hg3⟩ := owns_cut hg2 (by omega)
              subst hg3
              have HG := hide hg2
              have HQ7 := hide hq7
              have HOC := hide (ownsRow_below HO.out HB2.out)
              clear hg hg2 hq7 hq70
              have hcsn := HCS.out
              go_wp2_with (at_builtin; refine wpList_append_own _ rfl _ _ 33 rfl w1.heap.size 28 i1 (.slice none 0 0) 1 24 Try.underlying33 hj hy0 hy1 hy2 rfl (by omega) _ _ _ rfl (HOC.out.alloc _) ⟨wr.heap.size, 0, none⟩ 1 1 [.slice (some ⟨g3, 0, none⟩) (lk + q) c3] rfl rfl (cell_one_new _ _ _) (by simp [Value.oneCell']) (by unfold maxLen; omega) (by omega) (by simp; omega) ?_; intro v3 w3 hown3 hgrow3 _)
              have hA : Below wr.heap.size wr (wr.alloc (.cells #[.slice (some ⟨g3, 0, none⟩) (lk + q) c3] 28)) := (Below.refl _ _).alloc (Nat.le_refl _) _
              have hpc : Piece wr w1.heap.size (some ⟨g3, 0, none⟩) (marksOf k (lk + q)) := by
                have h := HG.out
                have e : (marksOf k (lk + q)).length = lk + q := marksOf_length _ _
                have hx := marksOf_lt k (lk + q)
                generalize marksOf k (lk + q) = ms at h e hx ⊢
                rw [← e] at h
                exact piece_of_owns h hx
              have hT2 := ((HT.out.below HB2.out).snoc c3 hpc (by rw [marksOf_length]; unfold maxLen; omega)).below hA
              rw [marksOf_length] at hT2
              have HT3 := hide (hT2.grown (HOC.out.alloc _) hgrow3)
              have HO3 := hide hown3
              have HB3 : Hid (Below w1.heap.size w1 w3) := ((bseq HB.out HB2.out).alloc (by omega) _).grown hgrow3 (by simp; omega) (fun j e => (HOC.out.lt j e).1)
              clear hA hpc hT2 hown3 hgrow3
              go_wp2
              go_roundw
              case rel =>
                refine ⟨k + 1, cs ++ [.slice (some ⟨g3, 0, none⟩) (lk + q) c3], by omega, by go_num, by simp [HCS.out], by simpa using HO3.out, ?_, HB3.out⟩
                have h := HT3.out
                rw [List.range_succ, List.map_append, List.map_singleton, HLe.out]
                rw [HQ7.out] at h ⊢
                exact h
              case measure => simp [intOf]; omega
        · have hki : (n : Int) ≤ (k : Int) := by omega
          have hkn2 : k = n := by omega
          subst hkn2
          obtain ⟨a2, c2, hv2, hs2⟩ := slr_of_owns HO.out HT.out
          rw [List.length_map, List.length_range] at hv2
          subst hv2
          have HS2 := hide hs2
          have HOG : Hid (OwnsT t A wr k G (fun j => marksOf j (L j))) := fun j hj ha => (HO2.out j hj ha).below HB.out (HO2.out j hj ha).lt
          have hbw : b < w1.heap.size := by rw [HH.out]; exact hb
          have HCR : Hid (∀ j, j < k → wr.cell? ⟨b, off + j, none⟩ = some (.slice (A j) (L j) (L j))) := fun j hj => (HB.out.cell (p := ⟨b, off + j, none⟩) hbw).trans ((World.cell?_of_block (a := ⟨b, off + j, none⟩) Hb1.out).trans (HC.out j hj))
          have HBE : Hid (Below base w wr) := HB1.out.trans (HB.out.mono (by rw [HH.out]; exact hle))
          clear hs2 HT HO HB HO2 HCS
          go_wp2
          generalize hwo : wr = w2 at *
          go_loopw [9] (fun i wr => ∃ j m : Nat, j ≤ k ∧ i = .int .i64 j ∧ wr = w2.drewN m) (fun i _ => k - (intOf i).toNat)
          case atStart => exact ⟨0, 0, by omega, rfl, rfl⟩
          case round =>
            obtain ⟨j, m, hj2, rfl, hwr⟩ := hrel
            by_cases hjk : j < k
            · have hji : (j : Int) < (k : Int) := by omega
              obtain ⟨b3, o3, rfl, hb3, hs3⟩ : ∃ b off, a2 = some ⟨b, off, none⟩ ∧ b < w2.heap.size ∧ ∀ (i : Nat) (r : List Nat), ((List.range k).map fun j => marksOf j (L j + 70))[i]? = some r → ∃ ai cap, w2.cell? ⟨b, off + i, none⟩ = some (.slice ai r.length cap) ∧ Sl w2 ai r ∧ r.length ≤ maxLen := by
                rcases HS2.out with h | h
                · have := congrArg List.length h; simp at this; omega
                · exact h
              obtain ⟨a4, c4, hc4, hs4, _⟩ := hs3 j (marksOf j (L j + 70)) (by rw [List.getElem?_map, List.getElem?_range hjk]; rfl)
              rw [marksOf_length] at hc4
              have hcl := HCR.out j hjk
              have hol : A j = some ⟨G j, 0, none⟩ → OwnT t w2 (G j) (marksOf j (L j)) := HOG.out j hjk
              have haj := HA.out j hjk
              have hLj := HLN.out j hjk
              generalize hLe : L j = lj at hcl hol hLj hc4 hs4 haj
              clear hLe
              generalize hGe : G j = gj at hcl hol haj
              clear hGe
              generalize hAe : A j = aj at hcl hol haj
              clear hAe
              have HAJ := hide haj
              clear haj
              obtain ⟨b5, o5, rfl, hb5, hs5⟩ : ∃ b off, a4 = some ⟨b, off, none⟩ ∧ b < w2.heap.size ∧ Seg w2 b off (marksOf j (lj + 70)) := by
                rcases hs4 with h | h
                · have := congrArg List.length h; rw [marksOf_length] at this; simp at this
                · exact h
              have HS5 := hide hs5
              have HOL := hide hol
              have HCL := hide hcl
              have HC4 := hide hc4
              have HWR := hide hwr
              have hc4r : wr.cell? ⟨b3, o3 + j, none⟩ = some (.slice (some ⟨b5, o5, none⟩) (lj + 70) c4) := by rw [hwr]; exact hc4
              clear hs3 hs4 hs5 hol hcl hc4 hwr
              go_wp2
              go_loopw [10] (fun x wr => ∃ q m : Nat, q ≤ lj + 70 ∧ x = .int .i64 q ∧ wr = w2.drewN m) (fun x _ => lj + 70 - (intOf x).toNat)
              case atStart => exact ⟨0, m, by omega, rfl, HWR.out⟩
              case round =>
                clear hc4r HWR
                obtain ⟨q, m, hq, rfl, hwr⟩ := hrel
                have hc4r : wr.cell? ⟨b3, o3 + j, none⟩ = some (.slice (some ⟨b5, o5, none⟩) (lj + 70) c4) := by rw [hwr]; exact HC4.out
                have hclr : wr.cell? ⟨b, off + j, none⟩ = some (.slice aj lj lj) := by rw [hwr]; exact HCL.out
                have HWR := hide hwr
                by_cases hql : q < lj + 70
                · have hqi : (q : Int) < (lj : Int) + 70 := by omega
                  have hcm : wr.cell? ⟨b5, o5 + q, none⟩ = some (.int .u8 ((markOf j q : Nat) : Int)) := by rw [hwr]; exact (HS5.out q _ (marksOf_get hql)).1
                  have hne : (((markOf j q : Nat) : Int) != ((markOf j q : Nat) : Int)) = false := by simp
                  have hqm : q ≤ 1000000000000000 := by omega
                  have hjm : j ≤ 1000000000000 := by omega
                  by_cases hq2 : q < lj
                  · have haj : aj = some ⟨gj, 0, none⟩ := HAJ.out.resolve_right (fun h => by omega)
                    have hcg : wr.cell? ⟨gj, q, none⟩ = some (.int .u8 ((markOf j q : Nat) : Int)) := by rw [hwr]; exact (HOL.out haj).cell q _ (marksOf_get hq2)
                    rw [haj] at hclr
                    clear haj
                    have hq3 : (q : Int) < (lj : Int) := by omega
                    have MK := hide (fun W => mark_any j q W hjm hqm)
                    clear hwr
                    generalize markOf j q = mk at *
                    go_wp2
                    go_quiet ((go_at_call 46; refine Calls.quiet_of_same (unhide MK _)))
                    go_wp2
                    go_roundw
                    case rel => exact ⟨q + 1, m + nq, by omega, by go_num, by rw [HWR.out, World.drewN_drewN]⟩
                    case measure => simp [intOf]; omega
                  · have hq3 : decide ((q : Int) < (lj : Int)) = false := decide_eq_false (by omega)
                    have MK := hide (fun W => mark_any j q W hjm hqm)
                    clear hwr
                    generalize markOf j q = mk at *
                    go_wp2
                    go_quiet ((go_at_call 46; refine Calls.quiet_of_same (unhide MK _)))
                    go_wp2
                    go_roundw
                    case rel => exact ⟨q + 1, m + nq, by omega, by go_num, by rw [HWR.out, World.drewN_drewN]⟩
                    case measure => simp [intOf]; omega
                · have hqi : (lj : Int) + 70 ≤ (q : Int) := by omega
                  clear hwr
                  go_wp2
                  go_roundw
                  case rel => exact ⟨j + 1, m, by omega, by go_num, HWR.out⟩
                  case measure => simp [intOf]; omega
            · have hji : (k : Int) ≤ (j : Int) := by omega
              have HWR := hide hwr
              clear hwr
              go_wp2
              go_ret
              refine ⟨rfl, ?_⟩
              rw [HWR.out]
              exact below_drewN HBE.out m

end Go.Proofs.Ytjbfbdnibnmfgaa
namespace Go.Proofs.Ytjbfbdnibnmfgaa
open Go.RowKit Go.Shelf
set_option linter.unusedVariables false

set_option maxHeartbeats 400000 in
theorem rline_no (a b c d e : Int) (w : World) (ha : -9223372036854775808 ≤ a) (ha' : a ≤ 9223372036854775807) (h : ¬ isPl a b c d e) :
    Calls Try.prog 11 #[.agg (suC a b c d e)] w fun r w' => r = .returned (.tuple #[.slice none 0 0, .int .i64 100]) ∧ Below w.heap.size w w' := by
  unfold suC
  by_cases hk : okS a
  · have hne : sameS a 128 32768 32896 ((a - 32896) / 256) a b c d e = false := by
      unfold sameS
      refine decide_eq_false fun hh => h ⟨hk, ?_⟩
      omega
    have kp : ∀ W, Calls Try.prog 9 #[.int .i64 a] W fun r w' => r = .returned (.tuple #[.agg #[.int .i64 a, .int .i64 128, .int .i64 32768, .int .i64 32896, .int .i64 ((a - 32896) / 256)], .int .i64 0]) ∧ Below W.heap.size W w' := fun W => rplan_ok a W hk
    generalize (a - 32896) / 256 = q at *
    have hg := Try.noGuard23
    have he := fun W => eql_su a 128 32768 32896 q a b c d e W
    rw [hne] at he
    have KP := hide kp
    clear kp hk h hne
    go_enter Try.func11, Try.ntmps11
    go_wp2_with (go_at_call 9; refine (KP.out _).mono ?_; rintro r W1 ⟨rfl, hB1⟩; have hb0 := row_after hB1; obtain ⟨c0, c1, c2, c3, c4⟩ := suBox hb0; obtain ⟨k0, k1, k2, k3, k4⟩ := suBox (row_keep hb0 ((Below.refl _ W1).alloc (Nat.le_refl _) (.cells #[.int .i64 a, .int .i64 128, .int .i64 32768, .int .i64 32896, .int .i64 q] 23))); have HB1 := hide (((Below.refl _ w).alloc (Nat.le_refl _) (.cells #[.int .i64 a, .int .i64 b, .int .i64 c, .int .i64 d, .int .i64 e] 23)).trans (hB1.mono (by simp))); clear hB1 hb0)
    go_ret2
    exact ⟨rfl, HB1.out.alloc HB1.out.size _⟩
  · have kp : ∀ W, Calls Try.prog 9 #[.int .i64 a] W fun r w' => r = .returned (.tuple #[.agg #[.int .i64 0, .int .i64 0, .int .i64 0, .int .i64 0, .int .i64 0], .int .i64 80]) ∧ Below W.heap.size W w' := fun W => rplan_no a W ha ha' hk
    have KP := hide kp
    clear kp hk h
    go_enter Try.func11, Try.ntmps11
    go_wp2_with (go_at_call 9; refine (KP.out _).mono ?_; rintro r W1 ⟨rfl, hB1⟩; have hb0 := row_after hB1; have HB1 := hide (((Below.refl _ w).alloc (Nat.le_refl _) (.cells #[.int .i64 a, .int .i64 b, .int .i64 c, .int .i64 d, .int .i64 e] 23)).trans (hB1.mono (by simp))); clear hB1 hb0)
    go_ret2
    exact ⟨rfl, HB1.out.alloc HB1.out.size _⟩

theorem line_pl (a b c d e : Int) (W : World) (h : isPl a b c d e) : Calls Try.prog 10 #[.agg #[.int .i64 a, .int .i64 b, .int .i64 c, .int .i64 d, .int .i64 e]] W fun r w' => ∃ g, r = .returned (.tuple #[.slice (some ⟨g, 0, none⟩) 64 64, .int .i64 0]) ∧ OwnT 69 w' g (sbX a) ∧ W.heap.size ≤ g ∧ Below W.heap.size W w' := by
  obtain ⟨hk, rfl, rfl, rfl, rfl⟩ := h
  exact line_ok a W hk
theorem rline_pl (a b c d e : Int) (W : World) (h : isPl a b c d e) : Calls Try.prog 11 #[.agg #[.int .i64 a, .int .i64 b, .int .i64 c, .int .i64 d, .int .i64 e]] W fun r w' => ∃ p cp, r = .returned (.tuple #[.slice p 64 cp, .int .i64 0]) ∧ Sl w' p (sbX a) ∧ Below W.heap.size W w' := by
  obtain ⟨hk, rfl, rfl, rfl, rfl⟩ := h
  obtain ⟨h1, h2, h3⟩ := id hk
  obtain ⟨N, rfl⟩ : ∃ N : Nat, a = (N : Int) := ⟨a.toNat, by omega⟩
  obtain ⟨q, hq⟩ : ∃ q : Nat, ((N : Int) - 32896) / 256 = (q : Int) := ⟨(((N : Int) - 32896) / 256).toNat, by omega⟩
  have k := rline_nat N q W hk hq
  unfold sbX
  rw [hq]
  exact k
theorem index_su (g i len cap : Nat) (hi : i < len) (w : World) : (Instr.indexAt 27 (.slice (some ⟨g, 0, none⟩) len cap) (.int .i64 (i : Int))).run Try.prog w = .ok (.pointer (some ⟨g, i * 5, none⟩)) w := by
  have h := index_at (t := 27) (e := 23) (sz := 5) (by kernel_rfl) (by kernel_rfl) g 0 i len cap hi w
  rwa [Nat.zero_add] at h
/-- The five cells of a place of a row of plans. -/
def Five (W : World) (g i : Nat) (a b c d e : Int) : Prop :=
  W.cell? ⟨g, i * 5, none⟩ = some (.int .i64 a) ∧ W.cell? ⟨g, i * 5 + 1, none⟩ = some (.int .i64 b) ∧ W.cell? ⟨g, i * 5 + 2, none⟩ = some (.int .i64 c) ∧ W.cell? ⟨g, i * 5 + 3, none⟩ = some (.int .i64 d) ∧ W.cell? ⟨g, i * 5 + 4, none⟩ = some (.int .i64 e)
theorem Five.keep {W W' : World} {g i : Nat} {a b c d e : Int} (h : Five W g i a b c d e) (k : W'.heap[g]? = W.heap[g]?) : Five W' g i a b c d e :=
  ⟨(World.cell?_of_block k).trans h.1, (World.cell?_of_block k).trans h.2.1, (World.cell?_of_block k).trans h.2.2.1, (World.cell?_of_block k).trans h.2.2.2.1, (World.cell?_of_block k).trans h.2.2.2.2⟩
theorem five_of {W : World} {g : Nat} {a b c d e p0 p1 p2 p3 p4 : Int} (h : W.heap[g]? = some (.cells #[.int .i64 a, .int .i64 b, .int .i64 c, .int .i64 d, .int .i64 e, .int .i64 p0, .int .i64 p1, .int .i64 p2, .int .i64 p3, .int .i64 p4, .int .i64 p0, .int .i64 p1, .int .i64 p2, .int .i64 p3, .int .i64 (p4 + 1)] 23 (0, 0))) (i : Nat) (hi : i < 3) :
    ∃ y0 y1 y2 y3 y4, Five W g i y0 y1 y2 y3 y4 ∧ (y0 = a ∨ y0 = p0) := by
  obtain rfl | rfl | rfl : i = 0 ∨ i = 1 ∨ i = 2 := by omega
  · exact ⟨a, b, c, d, e, ⟨cell8 h _, cell8 h _, cell8 h _, cell8 h _, cell8 h _⟩, .inl rfl⟩
  · exact ⟨p0, p1, p2, p3, p4, ⟨cell8 h _, cell8 h _, cell8 h _, cell8 h _, cell8 h _⟩, .inr rfl⟩
  · exact ⟨p0, p1, p2, p3, p4 + 1, ⟨cell8 h _, cell8 h _, cell8 h _, cell8 h _, cell8 h _⟩, .inr rfl⟩
theorem pair_apart (W : World) (g1 g2 base : Nat) (sb : List Nat) (hl : sb.length = 64) (h1 : OwnT 69 W g1 sb) (h2 : OwnT 69 W g2 sb) (hb1 : base ≤ g1) (hb2 : base ≤ g2) (hne : g1 ≠ g2) (hbw : base ≤ W.heap.size) :
    Calls Try.prog 13 #[.slice (some ⟨W.heap.size, 0, none⟩) 2 2] (W.alloc (.cells #[.slice (some ⟨g1, 0, none⟩) 64 64, .slice (some ⟨g2, 0, none⟩) 64 64] 28)) fun r w' => r = .returned (.bool true) ∧ Below base W w' := by
  have hB : Below W.heap.size W (W.alloc (.cells #[.slice (some ⟨g1, 0, none⟩) 64 64, .slice (some ⟨g2, 0, none⟩) 64 64] 28)) := (Below.refl _ W).alloc (Nat.le_refl _) _
  have l1 := h1.lt
  have l2 := h2.lt
  refine (apart_gen 69 (fun j => some ⟨if j = 0 then g1 else g2, 0, none⟩) W.heap.size 0 2 2 base (fun j => if j = 0 then g1 else g2) (fun _ => 64) (fun _ => sb) _ (by omega) (by simp) (fun j hj => ?_) (fun j hj => .inl rfl) (fun j hj => hl) (fun j hj => by omega) (fun j hj _ => ?_) (fun j hj => ?_) (by simp; omega) (fun j hj => ?_) (fun i hi j hj hij => ?_)).mono ?_
  · obtain rfl | rfl : j = 0 ∨ j = 1 := by omega
    · simp
    · simp
  · obtain rfl | rfl : j = 0 ∨ j = 1 := by omega
    · exact h1.below hB l1
    · exact h2.below hB l2
  · split <;> assumption
  · split <;> omega
  · obtain rfl | rfl : i = 0 ∨ i = 1 := by omega
    · obtain rfl : j = 1 := by omega
      simpa using hne.symm
    · obtain rfl : j = 0 := by omega
      simpa using hne
  · rintro r w' ⟨rfl, hb⟩
    exact ⟨rfl, (hB.mono hbw).trans hb⟩
theorem nil_apart (W : World) (base : Nat) (hbw : base ≤ W.heap.size) :
    Calls Try.prog 13 #[.slice (some ⟨W.heap.size, 0, none⟩) 2 2] (W.alloc (.cells #[.slice none 0 0, .slice none 0 0] 28)) fun r w' => r = .returned (.bool true) ∧ Below base W w' := by
  have hB : Below W.heap.size W (W.alloc (.cells #[.slice none 0 0, .slice none 0 0] 28)) := (Below.refl _ W).alloc (Nat.le_refl _) _
  refine (apart_gen 69 (fun _ => none) W.heap.size 0 2 2 base (fun j => W.heap.size + 1 + j) (fun _ => 0) (fun _ => []) _ (by omega) (by simp) (fun j hj => ?_) (fun j hj => .inr ⟨rfl, rfl⟩) (fun j hj => rfl) (fun j hj => by omega) (fun j hj h => by cases h) (fun j hj => by omega) (by simp; omega) (fun j hj => by omega) (fun i hi j hj hij => by omega)).mono ?_
  · obtain rfl | rfl : j = 0 ∨ j = 1 := by omega
    · simp
    · simp
  · rintro r w' ⟨rfl, hb⟩
    exact ⟨rfl, (hB.mono hbw).trans hb⟩
set_option maxRecDepth 100000 in
set_option maxHeartbeats 1000000 in
theorem plans_gen (x a b c d e p0 p1 p2 p3 p4 ec : Int) (w : World) (ha : -9223372036854775808 ≤ a ∧ a ≤ 9223372036854775807) (hp : -9223372036854775808 ≤ p0 ∧ p0 ≤ 9223372036854775807) (hw : IntKind.i64.wrap (p4 + 1) = p4 + 1)
    (kp : ∀ W, Calls Try.prog 8 #[.int .i64 x] W fun r w' => r = .returned (.tuple #[.agg #[.int .i64 p0, .int .i64 p1, .int .i64 p2, .int .i64 p3, .int .i64 p4], .int .i64 ec]) ∧ Below W.heap.size W w') (kq : ∀ W, Calls Try.prog 9 #[.int .i64 x] W fun r w' => r = .returned (.tuple #[.agg #[.int .i64 p0, .int .i64 p1, .int .i64 p2, .int .i64 p3, .int .i64 p4], .int .i64 ec]) ∧ Below W.heap.size W w') :
    Calls Try.prog 3 #[.int .i64 x, .agg #[.int .i64 a, .int .i64 b, .int .i64 c, .int .i64 d, .int .i64 e]] w fun r w' => r = .returned (.bool true) ∧ Below w.heap.size w w' := by
  have hg := Try.noGuard23
  have he := fun W => eql_su p0 p1 p2 p3 p4 p0 p1 p2 p3 p4 W
  have hs : sameS p0 p1 p2 p3 p4 p0 p1 p2 p3 p4 = true := by simp [sameS]
  rw [hs] at he
  have hec : (ec != ec) = false := by simp
  have KP := hide kp
  have KQ := hide kq
  have HA := hide ha
  have HP := hide hp
  have hB0 : Below w.heap.size w (w.alloc (.cells #[.int .i64 a, .int .i64 b, .int .i64 c, .int .i64 d, .int .i64 e] 23)) := (Below.refl _ w).alloc (Nat.le_refl _) _
  have H0 := hide hB0
  clear kp kq ha hp hs hB0
  go_enter Try.func3, Try.ntmps3
  go_wp2_with (first
    | (go_at_call 8; refine (KP.out _).mono ?_; rintro r W1 ⟨rfl, hB1⟩; have hb1 := row_after hB1; have HX1 := hide (row_keep hb1 ((Below.refl _ W1).alloc (Nat.le_refl _) (.cells #[.int .i64 p0, .int .i64 p1, .int .i64 p2, .int .i64 p3, .int .i64 p4] 23))); have h1 := bseq H0.out hB1; have HB1 := hide (h1.alloc (o := .cells #[.int .i64 p0, .int .i64 p1, .int .i64 p2, .int .i64 p3, .int .i64 p4] 23) h1.size); clear hB1 hb1 h1)
    | (go_at_call 9; refine (KQ.out _).mono ?_; rintro r W2 ⟨rfl, hB2⟩; have hA2 := hB2.alloc (o := .cells #[.int .i64 p0, .int .i64 p1, .int .i64 p2, .int .i64 p3, .int .i64 p4] 23) hB2.size; obtain ⟨c0, c1, c2, c3, c4⟩ := suBox (row_keep HX1.out hA2); obtain ⟨k0, k1, k2, k3, k4⟩ := suBox ((hA2.block _ (by simp)).trans (heap_alloc_new W1 (.cells #[.int .i64 p0, .int .i64 p1, .int .i64 p2, .int .i64 p3, .int .i64 p4] 23))); have HB2 := hide (HB1.out.trans (hA2.mono HB1.out.size)); clear hB2 hA2))
  have hnew : ((W2.alloc (.cells #[.int .i64 p0, .int .i64 p1, .int .i64 p2, .int .i64 p3, .int .i64 p4] 23)).alloc (.cells #[.int .i64 a, .int .i64 b, .int .i64 c, .int .i64 d, .int .i64 e, .int .i64 p0, .int .i64 p1, .int .i64 p2, .int .i64 p3, .int .i64 p4, .int .i64 p0, .int .i64 p1, .int .i64 p2, .int .i64 p3, .int .i64 (p4 + 1)] 23)).heap[W2.heap.size + 1]? = some (.cells #[.int .i64 a, .int .i64 b, .int .i64 c, .int .i64 d, .int .i64 e, .int .i64 p0, .int .i64 p1, .int .i64 p2, .int .i64 p3, .int .i64 p4, .int .i64 p0, .int .i64 p1, .int .i64 p2, .int .i64 p3, .int .i64 (p4 + 1)] 23 (0, 0)) := by
    have := heap_alloc_new (W2.alloc (.cells #[.int .i64 p0, .int .i64 p1, .int .i64 p2, .int .i64 p3, .int .i64 p4] 23)) (.cells #[.int .i64 a, .int .i64 b, .int .i64 c, .int .i64 d, .int .i64 e, .int .i64 p0, .int .i64 p1, .int .i64 p2, .int .i64 p3, .int .i64 p4, .int .i64 p0, .int .i64 p1, .int .i64 p2, .int .i64 p3, .int .i64 (p4 + 1)] 23)
    rwa [World.size_alloc] at this
  have hb3 : Below w.heap.size w ((W2.alloc (.cells #[.int .i64 p0, .int .i64 p1, .int .i64 p2, .int .i64 p3, .int .i64 p4] 23)).alloc (.cells #[.int .i64 a, .int .i64 b, .int .i64 c, .int .i64 d, .int .i64 e, .int .i64 p0, .int .i64 p1, .int .i64 p2, .int .i64 p3, .int .i64 p4, .int .i64 p0, .int .i64 p1, .int .i64 p2, .int .i64 p3, .int .i64 (p4 + 1)] 23)) := HB2.out.alloc HB2.out.size _
  have HNEW := hide hnew
  have HB3 := hide hb3
  clear hnew hb3
  go_loopw [10] (fun iv wr => ∃ k : Nat, iv = .int .i64 (k : Int) ∧ k ≤ 3 ∧ wr.heap[W2.heap.size + 1]? = some (.cells #[.int .i64 a, .int .i64 b, .int .i64 c, .int .i64 d, .int .i64 e, .int .i64 p0, .int .i64 p1, .int .i64 p2, .int .i64 p3, .int .i64 p4, .int .i64 p0, .int .i64 p1, .int .i64 p2, .int .i64 p3, .int .i64 (p4 + 1)] 23 (0, 0)) ∧ Below w.heap.size w wr) (fun iv _ => (3 - (intOf iv).toNat))
  case atStart => exact ⟨0, rfl, by omega, HNEW.out, HB3.out⟩
  case round =>
    clear HNEW HB3 c0 c1 c2 c3 c4 k0 k1 k2 k3 k4 hg he hec
    obtain ⟨k, rfl, hk, hL, hB⟩ := hrel
    by_cases hlt : k < 3
    · have kI : (k : Int) < 3 := by omega
      obtain ⟨y0, y1, y2, y3, y4, hf, hy⟩ := five_of hL k hlt
      have hyb : -9223372036854775808 ≤ y0 ∧ y0 ≤ 9223372036854775807 := by
        have := HA.out
        have := HP.out
        rcases hy with rfl | rfl <;> assumption
      have ix := fun X => index_su (W2.heap.size + 1) k 3 3 hlt X
      obtain ⟨z0, z1, z2, z3, z4⟩ := id hf
      have hll := lt_of_heap hL
      have HF := hide hf
      have HL := hide hL
      have HB := hide hB
      have HLL := hide hll
      clear hL hB hf hy hll hw
      by_cases hpl : isPl y0 y1 y2 y3 y4
      · have kl := fun W => line_pl y0 y1 y2 y3 y4 W hpl
        have kr := fun W => rline_pl y0 y1 y2 y3 y4 W hpl
        have hsl := sbX_len y0
        have hsx := sbX_lt y0
        generalize sbX y0 = sb at *
        have KL := hide kl
        have KR := hide kr
        have HSL := hide hsl
        have HSX := hide hsx
        have M1 := hide trivial
        have M2 := hide trivial
        clear kl kr hsl hsx hpl hyb
        go_wp2_with (first
          | (go_at_call 10; clear M1; refine (KL.out _).mono ?_; rintro r W4 ⟨g1, rfl, ho1, hg1, hb4⟩; obtain ⟨s0, s1, s2, s3, s4⟩ := HF.out.keep (hb4.block _ HLL.out); have HO1 := hide ho1; have HG1 := hide hg1; have HB4 := hide hb4; clear ho1 hg1 hb4)
          | (go_at_call 10; refine (KL.out _).mono ?_; rintro r W5 ⟨g2, rfl, ho2, hg2, hb5⟩; have h5 := bseq HB4.out hb5; obtain ⟨t0, t1, t2, t3, t4⟩ := HF.out.keep (h5.block _ HLL.out); have HO2 := hide ho2; have HG2 := hide (show g1 < g2 from Nat.lt_of_lt_of_le HO1.out.lt hg2); have HO1' := hide (HO1.out.below hb5 HO1.out.lt); have HB5 := hide h5; clear ho2 hg2 hb5 h5)
          | (go_at_call 11; refine (KR.out _).mono ?_; rintro r W6 ⟨a3, cp3, rfl, hs3, hb6⟩; have h6 := bseq HB5.out hb6; have q1 := HO1'.out.below hb6 HO1'.out.lt; have q2 := HO2.out.below hb6 HO2.out.lt; have e1 := eqBytes_any (some ⟨g1, 0, none⟩) a3 64 cp3 sb sb W6 (OwnL.sl q1 HSX.out) hs3 (by rw [HSL.out]; omega); rw [HSL.out, decide_eq_true (rfl : sb = sb)] at e1; have KE1 := hide e1; have Q1 := hide q1; have Q2 := hide q2; have HS3 := hide hs3; have HB6 := hide h6; clear hs3 hb6 h6 q1 q2 e1)
          | (go_at_call 12; clear M2; refine (KE1.out).mono ?_; rintro r W7 ⟨rfl, n7, hw7⟩; have h7 : Below W6.heap.size W6 W7 := (by rw [hw7]; exact below_drewN (Below.refl _ W6) n7); have q1 := Q1.out.below h7 Q1.out.lt; have q2 := Q2.out.below h7 Q2.out.lt; have e1 := eqBytes_any (some ⟨g2, 0, none⟩) a3 64 cp3 sb sb W7 (OwnL.sl q2 HSX.out) (HS3.out.below h7) (by rw [HSL.out]; omega); rw [HSL.out, decide_eq_true (rfl : sb = sb)] at e1; have KE2 := hide e1; have R1 := hide q1; have R2 := hide q2; have HB7 := hide (bseq HB6.out h7); clear hw7 h7 q1 q2 e1)
          | (go_at_call 12; refine (KE2.out).mono ?_; rintro r W8 ⟨rfl, n8, hw8⟩; have h8 : Below W7.heap.size W7 W8 := (by rw [hw8]; exact below_drewN (Below.refl _ W7) n8); have h9 := bseq HB7.out h8; have ka := pair_apart W8 g1 g2 wr.heap.size sb HSL.out (R1.out.below h8 R1.out.lt) (R2.out.below h8 R2.out.lt) HG1.out (Nat.le_of_lt (Nat.lt_of_le_of_lt HG1.out HG2.out)) (Nat.ne_of_lt HG2.out) h9.size; have KA := hide ka; have HB8 := hide h9; clear hw8 h8 h9 ka)
          | (go_at_call 13; refine (KA.out).mono ?_; rintro r W9 ⟨rfl, hb9⟩; have HB9 := hide (HB8.out.trans hb9); clear hb9))
        go_roundw
        case rel => exact ⟨k + 1, int_congrP (by omega), by omega, (HB9.out.block _ HLL.out).trans HL.out, HB.out.trans (HB9.out.mono HB.out.size)⟩
        case measure => simp [intOf]; omega
      · have kl := fun W => line_no y0 y1 y2 y3 y4 W hyb.1 hyb.2 hpl
        have kr := fun W => rline_no y0 y1 y2 y3 y4 W hyb.1 hyb.2 hpl
        unfold suC at kl kr
        have KL := hide kl
        have KR := hide kr
        have M1 := hide trivial
        have M2 := hide trivial
        clear kl kr hpl hyb
        have ke : ∀ W, Calls Try.prog 12 #[.slice none 0 0, .slice none 0 0] W fun r w' => r = .returned (.bool true) ∧ ∃ n, w' = W.drewN n := fun W => eqBytes_any none none 0 0 [] [] W (.inl rfl) (.inl rfl) (by simp)
        have KE := hide ke
        clear ke
        go_wp2_with (first
          | (go_at_call 10; clear M1; refine (KL.out _).mono ?_; rintro r W4 ⟨rfl, hb4⟩; obtain ⟨s0, s1, s2, s3, s4⟩ := HF.out.keep (hb4.block _ HLL.out); have HB4 := hide hb4; clear hb4)
          | (go_at_call 10; refine (KL.out _).mono ?_; rintro r W5 ⟨rfl, hb5⟩; have h5 := bseq HB4.out hb5; obtain ⟨t0, t1, t2, t3, t4⟩ := HF.out.keep (h5.block _ HLL.out); have HB5 := hide h5; clear hb5 h5)
          | (go_at_call 11; refine (KR.out _).mono ?_; rintro r W6 ⟨rfl, hb6⟩; have HB6 := hide (bseq HB5.out hb6); clear hb6)
          | (go_at_call 12; clear M2; refine (KE.out _).mono ?_; rintro r W7 ⟨rfl, n7, hw7⟩; have HB7 := hide (bseq HB6.out (show Below W6.heap.size W6 W7 by rw [hw7]; exact below_drewN (Below.refl _ W6) n7)); clear hw7)
          | (go_at_call 12; refine (KE.out _).mono ?_; rintro r W8 ⟨rfl, n8, hw8⟩; have h9 := bseq HB7.out (show Below W7.heap.size W7 W8 by rw [hw8]; exact below_drewN (Below.refl _ W7) n8); have ka := nil_apart W8 wr.heap.size h9.size; have KA := hide ka; have HB8 := hide h9; clear hw8 h9 ka)
          | (go_at_call 13; refine (KA.out).mono ?_; rintro r W9 ⟨rfl, hb9⟩; have HB9 := hide (HB8.out.trans hb9); clear hb9))
        go_roundw
        case rel => exact ⟨k + 1, int_congrP (by omega), by omega, (HB9.out.block _ HLL.out).trans HL.out, HB.out.trans (HB9.out.mono HB.out.size)⟩
        case measure => simp [intOf]; omega
    · obtain rfl : k = 3 := by omega
      have HB := hide hB
      clear hL hB
      go_wp2_with (go_at_call 14; refine (works_any _).mono ?_; rintro r W4 ⟨rfl, hB4⟩; have HB4 := hide (HB.out.trans (hB4.mono HB.out.size)); clear hB4)
      go_ret
      exact ⟨rfl, HB4.out⟩
theorem superPlans_walk (x a b c d e : Int) (w : World) (hx : -9223372036854775808 ≤ x) (hx' : x ≤ 9223372036854775807) (ha : -9223372036854775808 ≤ a) (ha' : a ≤ 9223372036854775807) :
    Calls Try.prog 3 #[.int .i64 x, .agg #[.int .i64 a, .int .i64 b, .int .i64 c, .int .i64 d, .int .i64 e]] w fun r w' => r = .returned (.bool true) ∧ Below w.heap.size w w' := by
  by_cases hk : okS x
  · obtain ⟨h1, h2, h3⟩ := id hk
    exact plans_gen x a b c d e x 128 32768 32896 ((x - 32896) / 256) 0 w ⟨ha, ha'⟩ ⟨hx, hx'⟩ (by rw [IntKind.wrap_i64]; omega) (fun W => plan_ok x W hk) (fun W => rplan_ok x W hk)
  · exact plans_gen x a b c d e 0 0 0 0 0 80 w ⟨ha, ha'⟩ (by omega) (by decide) (fun W => plan_no x W hx hx' hk) (fun W => rplan_no x W hx hx' hk)
end Go.Proofs.Ytjbfbdnibnmfgaa
namespace Go.Proofs.Ytjbfbdnibnmfgaa
open Go.ChangeShapes Go.WideShapes Go.ChangeAt Go.RowKit
set_option linter.unusedVariables false

theorem own : ownKnob Try.prog.godebug = none := by kernel_rfl
theorem laidOut : laidOutB Try.prog = true := by kernel_rfl
theorem size_of_sized {s : ByteArray} (h : s.data.toList.length ≤ reachBytes) : s.size ≤ 140737488351232 := by
  have : s.data.toList.length = s.size := by simp
  have e : reachBytes = 140737488351232 := by decide
  omega
theorem bulk_pos {H : Type} (d : DataW H) : 1 ≤ Rows.uptoBulk d := by
  cases d with
  | lit l => cases l <;> simp [Rows.uptoBulk]
  | _ => simp [Rows.uptoBulk]
theorem bulk_len {H : Type} (l : List (DataW H)) : l.length ≤ Rows.uptoBulkAll l := by
  induction l with
  | nil => simp [Rows.uptoBulkAll]
  | cons d r ih =>
    have := bulk_pos d
    simp only [Rows.uptoBulkAll, List.length_cons]
    omega
theorem bulk_string {H : Type} (s : ByteArray) : s.size ≤ Rows.uptoBulk (H := H) (.lit (.string s.data.toList)) := by
  simp [Rows.uptoBulk]
theorem bulk_nums {H : Type} {d : DataW H} {zs : List Int} (h : d = .nil ∧ zs = [] ∨ ∃ el sp, d = .slice el sp ∧ el.length = zs.length) : zs.length ≤ Rows.uptoBulk d := by
  rcases h with ⟨_, rfl⟩ | ⟨el, sp, rfl, h⟩
  · simp
  · have := bulk_len el
    simp only [Rows.uptoBulk]
    omega
theorem bulk_of {H : Type} {l : List (DataW H)} (h : Rows.uptoSmall H l = true) : Rows.uptoBulkAll l ≤ 1048576 := of_decide_eq_true h

theorem Try.bytes32 : Try.prog.bytesOf 21 = 4 := by kernel_rfl
end Go.Proofs.Ytjbfbdnibnmfgaa
namespace Go.Proofs.Ytjbfbdnibnmfgaa
open Go.ChangeShapes Go.WideShapes Go.ChangeAt Go.RowKit
set_option linter.unusedVariables false
set_option maxRecDepth 100000

theorem Try.cells23 : Try.prog.cellsOf 23 = 5 := by kernel_rfl
theorem Try.cellsI : Try.prog.cellsOf 3 = 1 := by kernel_rfl
/-- The five cells that a plan is read out of. -/
theorem super_cells {H : Type} {enc : TypeId × Value → H} {W : World} {base : Nat} {sp : Bool} {held : Nat → Bool} {fuel : Nat} {cs : List Value} {x : DataW H × List MemPlace}
    (h : DataW.trod enc Try.prog W base held sp fuel 23 cs = some x) :
    ∃ (a b c d e : Int), cs = [.int .i64 a, .int .i64 b, .int .i64 c, .int .i64 d, .int .i64 e] ∧ -9223372036854775808 ≤ a ∧ a ≤ 9223372036854775807 := by
  obtain ⟨xs, n, _, hx, hl, hlen, hf⟩ := DataW.trod_struct Try.underlying23 h
  rw [Try.cells23] at hl
  match cs, hl with
  | [c0, c1, c2, c3, c4], _ =>
    match xs, hlen with
    | [y0, y1, y2, y3, y4], _ =>
      have h0 := hf 0 _ rfl
      have h1 := hf 1 _ rfl
      have h2 := hf 2 _ rfl
      have h3 := hf 3 _ rfl
      have h4 := hf 4 _ rfl
      simp [Try.cellsI] at h0 h1 h2 h3 h4
      obtain ⟨a, e0, _, w0⟩ := DataW.trod_int Try.underlying3 h0
      obtain ⟨b, e1, _, _⟩ := DataW.trod_int Try.underlying3 h1
      obtain ⟨c, e2, _, _⟩ := DataW.trod_int Try.underlying3 h2
      obtain ⟨d, e3, _, _⟩ := DataW.trod_int Try.underlying3 h3
      obtain ⟨e, e4, _, _⟩ := DataW.trod_int Try.underlying3 h4
      simp at e0 e1 e2 e3 e4
      subst e0 e1 e2 e3 e4
      exact ⟨a, b, c, d, e, rfl, (bounds_i64 w0).1, (bounds_i64 w0).2⟩
theorem open_super {H : Type} {enc : TypeId × Value → H} {W : World} {r : Reach} {b0 base : Nat} {sp : Bool} {held : Nat → Bool} {v : Value} {d : DataW H} {p : List MemPlace}
    (hv : Value.okWide Try.prog W r b0 23 v) (h : DataW.Trod enc Try.prog W base held sp 23 v d p) :
    ∃ (a b c d e : Int), v = .agg #[.int .i64 a, .int .i64 b, .int .i64 c, .int .i64 d, .int .i64 e] ∧ -9223372036854775808 ≤ a ∧ a ≤ 9223372036854775807 := by
  obtain ⟨cs, rfl, hsz⟩ := okWide_struct Try.underlying23 hv
  obtain ⟨fuel, hf⟩ := h
  obtain ⟨a, b, c, d, e, e5, hb⟩ := super_cells hf
  refine ⟨a, b, c, d, e, ?_, hb⟩
  have e' : cs.toList = [.int .i64 a, .int .i64 b, .int .i64 c, .int .i64 d, .int .i64 e] := by simpa [Value.cells] using e5
  rw [← Array.toArray_toList (xs := cs), e']
end Go.Proofs.Ytjbfbdnibnmfgaa
namespace Go.Proofs.Ytjbfbdnibnmfgaa.superPlans
open Go.ChangeShapes Go.WideShapes Go.ChangeAt Go.RowKit Go.Proofs.Ytjbfbdnibnmfgaa
set_option linter.unusedVariables false

set_option maxRecDepth 100000 in
theorem lifted (os : Os) (started : os.Started) (H : Type) (enc : TypeId × Value → H) :
    ReturnsInHanded {} Try.checked os 3 .any (Rows.superPlansSpec.pre6 enc Try.prog Try.f3 Rows.superPlansRow.domain false) (Rows.superPlansSpec.post enc Try.prog Try.f3 false true false false) := by
  refine returnsInHanded_of_change (C := Try.checked) own started (by kernel_rfl) Try.func3
    (ChangeSpec.witness6 (enc := enc) (C := Try.checked) false ⟨#[], #[.int .i64 0, .agg #[.int .i64 0, .int .i64 0, .int .i64 0, .int .i64 0, .int .i64 0]], []⟩ 8 (by kernel_rfl) (by kernel_rfl) (by kernel_rfl) (by kernel_rfl)) ?_
  intro W base args ds gs before hval0 hW hcnd _
  have hval : ∀ (j : Nat) t v, Try.f3.params[j]? = some t → args[j]? = some v → Value.okWide Try.prog W .any base t v := hval0
  have hW' := hW
  obtain ⟨p, q, hA0, hV, rfl, hfz, hnd⟩ := hW
  have hA : DataW.TrodAll enc Try.prog W 0 (fun _ => true) true Try.f3.params.toList args.toList ds p := hA0
  rw [Try.params3] at hA hval
  obtain ⟨v0, vs0, d0, ds0, p0, q0, hargs, rfl, rfl, h0, r0⟩ := trodAll_cons hA
  obtain ⟨v1, vs1, d1, ds1, p1, q1, rfl, rfl, rfl, h1, r1⟩ := trodAll_cons r0
  obtain ⟨rfl, rfl, rfl⟩ := trodAll_nil r1
  obtain rfl : args = #[v0, v1] := by cases args; simp_all
  obtain ⟨rfl, rfl⟩ := trodVars_none hV
  obtain ⟨a0, rfl, rfl, rfl, w0⟩ := open_int Try.underlying3 (hval 0 3 v0 rfl rfl) h0
  have b0 := bounds_i64 w0
  have k1 := h1
  have lt1 : ∀ x ∈ p1, x.block < W.heap.size := by obtain ⟨m, hm⟩ := k1; exact DataW.trod_lt m _ _ _ hm
  obtain ⟨sa1, sb1, sc1, sd1, se1, rfl, b1⟩ := open_super (hval 1 23 v1 rfl rfl) h1
  clear hval0
  clear hA0
  refine (superPlans_walk a0 sa1 sb1 sc1 sd1 se1 W b0.1 b0.2 b1.1 b1.2).mono fun e W' ⟨he, bel⟩ => ?_
  subst he
  exact ⟨_, rfl, _, _, _, [], _, [], hW', trodAll_mk1 (shut_bool Try.underlying4 _), (trodAll_cons_mk (shut_int Try.underlying3 w0) (trodAll_cons_mk (Below.trod laidOut (by kernel_rfl) (of_decide_eq_true (by kernel_rfl)) k1 bel lt1) trodAll_mk0)), rfl, bel.frame _, fun h => by cases h⟩

theorem over : Rows.superPlansRow.holds Try.pinned (OpenSpec.ofChange Rows.superPlansSpec) :=
  OpenClaim.holds_of_wide 3 Try.f3 rfl rfl rfl rfl rfl rfl rfl ⟨rfl, rfl, rfl, rfl, rfl⟩ rfl rfl rfl rfl rfl (by kernel_rfl) Try.func3 (by kernel_rfl)
    (of_decide_eq_true (by kernel_rfl)) (by unfold Func.isWrapper; first | (rw [if_pos (by decide +kernel)]; kernel_rfl) | (rw [if_neg (by decide +kernel)]; exact ⟨rfl, rfl⟩))
    (fun os started H enc _ => lifted os started H enc)

end Go.Proofs.Ytjbfbdnibnmfgaa.superPlans

namespace Go.Proofs.Ytjbfbdnibnmfgaa
/-- SuperPlans, as it is stated. -/
theorem superPlans_holds : Rows.SuperPlansSaid := superPlans.over
#print axioms superPlans_holds
end Go.Proofs.Ytjbfbdnibnmfgaa
