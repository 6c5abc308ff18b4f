/- SuperBits answers true for all numbers: of a superblock with one bit turned super.Read tells that it is none; the bit turned back it is the plan. -/
import Derived.Test.YtjbfbdnibnmfgaaHelp
import Derived.Test.YtjbfbdnibnmfgaaJoin
import Derived.ArgAppend
import Derived.Deep.RegionWith
import Derived.BigRegion
import Derived.Deep.QuietTactic
import Derived.BigQuiet
import Derived.Test.YtjbfbdnibnmfgaaZRead
import Derived.Test.YtjbfbdnibnmfgaaZWrk
import Derived.Test.YtjbfbdnibnmfgaaPHeld
import Derived.Laws.BitsAllLaws
import Derived.Test.YtjbfbdnibnmfgaaBase
import Derived.ProofKit
import Derived.ChangeOld
import Derived.ChangeMaps5
import Derived.SizedLaws
import Derived.JoinedCond
namespace Go.Proofs.Ytjbfbdnibnmfgaa
open Go.RowKit
set_option linter.unusedVariables false

theorem ret_int' {k : IntKind} {a b : Int} (h : a = b) : Ending.returned (.int k a) = .returned (.int k b) := by rw [h]

/-- The number of so many bytes at a place, and the error's number. -/
def takeV (bs : List Nat) (p : Int) (n : Nat) : Nat × Int :=
  if p < 0 ∨ (bs.length : Int) - n < p then (0, 6) else (leV ((bs.drop p.toNat).take n), 0)
theorem takeV_lt (bs : List Nat) (p : Int) (n : Nat) (h : ∀ x ∈ bs, x < 256) : (takeV bs p n).1 < 256 ^ n := by
  unfold takeV
  split
  · exact Nat.pow_pos (by omega)
  · refine Nat.lt_of_lt_of_le (leV_lt _ fun x hx => h x (List.mem_of_mem_drop (List.mem_of_mem_take hx))) (Nat.pow_le_pow_right (by omega) (List.length_take_le _ _))
theorem leB_mod (n v : Nat) : leB n (v % 256 ^ n) = leB n v := by
  induction n generalizing v with
  | zero => rfl
  | succ n ih =>
    simp only [leB]
    have e1 : v % 256 ^ (n + 1) % 256 = v % 256 := Nat.mod_mod_of_dvd v ⟨256 ^ n, by rw [Nat.pow_succ, Nat.mul_comm]⟩
    have e2 : v % 256 ^ (n + 1) / 256 = v / 256 % 256 ^ n := by rw [Nat.pow_succ, Nat.mul_comm, Nat.mod_mul_right_div_self]
    rw [e1, e2, ih]

theorem take64_any (a : Option Addr) (cap : Nat) (bs : List Nat) (p : Int) (w : World) (hg : Sl w a bs) (hl : bs.length ≤ maxLen) :
    Calls Try.prog 94 #[.slice a bs.length cap, .int .i64 p] w fun e w' => e = .returned (.tuple #[.int .u64 (takeV bs p 8).1, .int .i64 (takeV bs p 8).2]) ∧ w' = w := by
  unfold takeV
  by_cases h1 : p < 0
  · rw [if_pos (.inl h1)]; exact take64_low a bs.length cap w p h1
  · by_cases h2 : (bs.length : Int) - 8 < p
    · rw [if_pos (.inr h2)]; exact take64_high a bs.length cap w p hl (by omega) h2
    · rw [if_neg (by intro h; rcases h with h | h; exact h1 h; exact h2 h)]
      obtain ⟨q, rfl⟩ := Int.eq_ofNat_of_zero_le (show 0 ≤ p by omega)
      exact take64_good a cap q bs w hg hl (by omega)

end Go.Proofs.Ytjbfbdnibnmfgaa
namespace Go.Proofs.Ytjbfbdnibnmfgaa
open Go.RowKit
set_option linter.unusedVariables false

theorem shr_byte (v k : Nat) : (v : Int) / 2 ^ (8 * k) % 256 = ((v / 256 ^ k % 256 : Nat) : Int) := by
  have e : (2 : Int) ^ (8 * k) = ((256 ^ k : Nat) : Int) := by rw [Int.pow_mul, Int.natCast_pow]; rfl
  rw [e, ← Int.natCast_ediv]
  omega
theorem leB_take (n v k x : Nat) (h : k < n) (hx : x = v / 256 ^ k % 256) : (leB n v).take (k + 1) = (leB n v).take k ++ [x] := by
  rw [List.take_add_one, leB_get n v k h, hx]; rfl

set_option maxHeartbeats 400000 in
theorem little_any (v n : Nat) (w : World) (hv : v < 18446744073709551616) (hn : n ≤ 8) :
    Calls Try.prog 44 #[.int .u64 v, .int .i64 n] w fun e w' => ∃ u, e = .returned u ∧ w'.ownsRow w.heap.size 5 1 u n ((leB n v).map B8) ∧ Below w.heap.size w w' := by
  obtain ⟨i0, hi, hz0, hz1, hz2⟩ := info_parts Try.info5
  go_enter Try.func44, Try.ntmps44
  go_wp2
  go_loopw [5, 6] (fun u i wr => ∃ (k : Nat), k ≤ n ∧ i = .int .i64 k ∧ wr.ownsRow w.heap.size 5 1 u k (((leB n v).take k).map B8) ∧ Below w.heap.size w wr)
    (fun _ i _ => n - (intOf i).toNat)
  case atStart => exact ⟨0, by omega, rfl, World.ownsRow_nil _ _ _ _, Below.refl _ _⟩
  case round =>
    obtain ⟨k, hk, rfl, hown, hB⟩ := hrel
    have HO := hide hown
    have HB := hide hB
    have hsz := hB.size
    clear hown hB
    by_cases hlt : k < n
    · have hto : (8 * (k : Int)).toNat = 8 * k := by omega
      have hs := shr_byte v k
      generalize hxe : v / 256 ^ k % 256 = x at hs
      have HX := hide hxe
      clear hxe
      go_wp2_with (at_builtin; refine wpList_append_own _ rfl _ _ 28 rfl w.heap.size 5 i0 (.int .u8 0) 1 1 Try.underlying28 hi hz0 hz1 hz2 rfl (by omega) _ _ _ rfl (HO.out.alloc _) ⟨wr.heap.size, 0, none⟩ 1 1 [.int .u8 (x : Int)] rfl rfl (cell_one_new _ _ _) (by simp [Value.oneCell']) (by unfold maxLen; omega) (by omega) (by simp; omega) ?_; intro v3 w3 hown3 hgrow3 _)
      have HO3 := hide hown3
      have HB3 : Hid (Below w.heap.size w w3) := (HB.out.alloc (by omega) _).grown hgrow3 (by simp; omega) (fun j e => (HO.out.lt j e).1)
      clear hown3 hgrow3
      go_wp2
      go_roundw
      case rel =>
        refine ⟨k + 1, by omega, by go_num, ?_, HB3.out⟩
        rw [leB_take n v k x hlt HX.out.symm]
        simpa [B8] using HO3.out
      case measure => simp [intOf]; omega
    · have hkk : k = n := by omega
      subst hkk
      go_wp2
      go_ret
      have h := HO.out
      rw [List.take_of_length_le (by rw [leB_length]; omega)] at h
      exact ⟨_, rfl, h, HB.out⟩

def markOf (i k : Nat) : Nat := (i * 31 + k * 7 + 1) % 256
theorem mark_any (i k : Nat) (w : World) (hi : i ≤ 1000000000000) (hk : k ≤ 1000000000000000) :
    Calls Try.prog 46 #[.int .i64 i, .int .i64 k] w fun e w' => e = .returned (.int .u8 ((markOf i k : Nat) : Int)) ∧ w' = w := by
  go_enter Try.func46, Try.ntmps46
  go_wp2
  go_ret
  exact ⟨ret_int' (by unfold markOf; omega), rfl⟩

theorem xor_half (a b : Nat) : (a ^^^ b) / 2 = a / 2 ^^^ b / 2 := Nat.xor_div_two
theorem xor_low (a b : Nat) : (a ^^^ b) % 2 = (a % 2 + b % 2) % 2 := by
  have e : (a ^^^ b) % 2 ^ 1 = a % 2 ^ 1 ^^^ b % 2 ^ 1 := Nat.xor_mod_two_pow
  rw [Nat.pow_one] at e
  rw [e]
  rcases Nat.mod_two_eq_zero_or_one a with h1 | h1 <;> rcases Nat.mod_two_eq_zero_or_one b with h2 | h2 <;> rw [h1, h2] <;> rfl
def refStep (r y : Nat) : Nat := if y % 2 = r % 2 then r / 2 else r / 2 ^^^ 2197175160
theorem refStep_eq (r y : Nat) : bitStep (r ^^^ y) = refStep r y ^^^ (y / 2) := by
  unfold bitStep refStep
  rw [xor_low, xor_half]
  by_cases h : y % 2 = r % 2
  · rw [if_neg (by omega), if_pos h]
  · rw [if_pos (by omega), if_neg h, Nat.xor_assoc, Nat.xor_comm (y / 2), ← Nat.xor_assoc]
theorem refStep_lt (r y : Nat) (h : r < 4294967296) : refStep r y < 4294967296 := by
  unfold refStep
  split
  · omega
  · exact xor_lt32 _ _ (by omega) (by omega)
theorem refSteps_next {z R x k : Nat} (h : bitSteps k z = R ^^^ x / 2 ^ k) : bitSteps (k + 1) z = refStep R (x / 2 ^ k) ^^^ x / 2 ^ (k + 1) := by
  show bitStep (bitSteps k z) = _
  rw [h, refStep_eq, Nat.pow_succ, Nat.div_div_eq_div_mul]
theorem refSteps_end {z R x : Nat} (hx : x < 256) (h : bitSteps 8 z = R ^^^ x / 2 ^ 8) : bitSteps 8 z = R := by
  rw [h, Nat.div_eq_of_lt (by omega), Nat.xor_zero]

theorem ref_inv (s : Nat) (h : s < 4294967296) : bits BinOp.xor IntKind.u64 (s : Int) 4294967295 = ((4294967295 ^^^ s : Nat) : Int) := by
  rw [Nat.xor_comm]; exact u64_xor_nat s 4294967295 (by omega) (by omega)
theorem ref_mix (r : Nat) (h : r < 4294967296) : bits BinOp.xor IntKind.u64 (r : Int) 2197175160 = ((r ^^^ 2197175160 : Nat) : Int) :=
  u64_xor_nat r 2197175160 (by omega) (by omega)
theorem ref_bit (x k : Nat) : (x : Int) / 2 ^ k = ((x / 2 ^ k : Nat) : Int) := by rw [Int.natCast_ediv, Int.natCast_pow]; rfl

set_option maxHeartbeats 400000 in
theorem refMore_any (s : Nat) (a : Option Addr) (cap : Nat) (bs : List Nat) (w : World) (hs : s < 4294967296) (hg : Sl w a bs) (hl : bs.length ≤ maxLen) :
    Calls Try.prog 73 #[.int .u32 s, .slice a bs.length cap] w fun e w' => e = .returned (.int .u32 (moreV s bs)) ∧ w' = w := by
  unfold maxLen at hl
  have hinv := ref_inv s hs
  have hi32 := xor_lt32 4294967295 s (by omega) hs
  go_enter Try.func73, Try.ntmps73
  go_wp2
  clear hinv
  go_loop [5, 6] (fun r i => ∃ k R : Nat, k ≤ bs.length ∧ R < 4294967296 ∧ i = .int .i64 k ∧ r = .int .u64 R ∧ R = runs (4294967295 ^^^ s) (bs.take k)) (fun _ i => bs.length - (intOf i).toNat)
  case atStart => exact ⟨0, 4294967295 ^^^ s, Nat.zero_le _, hi32, rfl, rfl, rfl⟩
  case round =>
    obtain ⟨k, R, hk, hR, rfl, rfl, hRk⟩ := hrel
    have HR : Hid (R = runs (4294967295 ^^^ s) (bs.take k)) := hRk
    clear hRk
    by_cases hlt : k < bs.length
    · obtain ⟨x, hx⟩ : ∃ x, bs[k]? = some x := ⟨_, List.getElem?_eq_getElem hlt⟩
      obtain ⟨b, off, rfl, _, hseg⟩ : ∃ b off, a = some ⟨b, off, none⟩ ∧ b < w.heap.size ∧ Seg w b off bs := by
        rcases hg with rfl | h
        · simp at hlt
        · exact h
      obtain ⟨hc, hx2⟩ := hseg k x hx
      have HX : Hid (bs[k]? = some x) := hx
      have hki : (k : Int) < (bs.length : Int) := by omega
      clear hx hg hseg
      go_wp2
      go_loop [5, 7] (fun r i => ∃ j Q : Nat, j ≤ 8 ∧ Q < 4294967296 ∧ i = .int .i64 j ∧ r = .int .u64 Q ∧ bitSteps j (R ^^^ x) = Q ^^^ x / 2 ^ j) (fun _ i => 8 - (intOf i).toNat)
      case atStart => exact ⟨0, R, by omega, hR, rfl, rfl, by simp [bitSteps]⟩
      case round =>
        obtain ⟨j, Q, hj, hQ, rfl, rfl, hQj⟩ := hrel
        have HQ := hide hQj
        clear hQj
        by_cases hj8 : j < 8
        · have hbit := ref_bit x j
          have hy : x / 2 ^ j < 256 := Nat.lt_of_le_of_lt (Nat.div_le_self _ _) hx2
          generalize hye : x / 2 ^ j = y at hbit hy
          have HY := hide hye
          clear hye
          by_cases hsame : y % 2 = Q % 2
          · have hq : (((y : Int) % 2) != ((Q : Int) % 2)) = false := by rw [bne_eq_false_iff_eq]; omega
            have HSM := hide hsame
            clear hsame
            go_wp2
            go_round
            case rel => exact ⟨j + 1, refStep Q y, by omega, refStep_lt _ _ hQ, by go_num, int_congr (by unfold refStep; rw [if_pos HSM.out]; omega), by rw [refSteps_next HQ.out, HY.out]⟩
            case measure => simp [intOf]; omega
          · have hq : (((y : Int) % 2) != ((Q : Int) % 2)) = true := by rw [bne_iff_ne]; omega
            have hmx := ref_mix (Q / 2) (by omega)
            have HSM := hide hsame
            clear hsame
            go_wp2
            go_round
            case rel => exact ⟨j + 1, refStep Q y, by omega, refStep_lt _ _ hQ, by go_num, int_congr (by unfold refStep; rw [if_neg HSM.out]; first | exact hmx | simp), by rw [refSteps_next HQ.out, HY.out]⟩
            case measure => simp [intOf]; omega
        · go_wp2
          go_round
          case rel =>
            have e8 : j = 8 := by omega
            subst e8
            refine ⟨k + 1, Q, by omega, hQ, by go_num, rfl, ?_⟩
            rw [List.take_add_one, HX.out]
            simp only [Option.toList_some]
            rw [runs_snoc, ← HR.out]
            exact (refSteps_end hx2 HQ.out).symm
          case measure => simp [intOf]; omega
    · have hfin : k = bs.length := by omega
      have HF : Hid (k = bs.length) := hfin
      clear hfin
      have hinv2 := ref_inv R hR
      have h32 := xor_lt32 4294967295 R (by omega) hR
      generalize hze : 4294967295 ^^^ R = z at hinv2 h32
      have HZ := hide hze
      clear hze
      go_wp2
      go_ret
      refine ⟨ret_int ?_, rfl⟩
      unfold moreV
      rw [← List.take_length (l := bs), ← HF.out, ← HR.out, HZ.out]

end Go.Proofs.Ytjbfbdnibnmfgaa
namespace Go.Proofs.Ytjbfbdnibnmfgaa
open Go.RowKit
set_option linter.unusedVariables false

/-- The marks of list number i. -/
def marksOf (i n : Nat) : List Nat := (List.range n).map (markOf i)
theorem marksOf_length (i n : Nat) : (marksOf i n).length = n := by simp [marksOf]
theorem marksOf_get {i n k : Nat} (h : k < n) : (marksOf i n)[k]? = some (markOf i k) := by simp [marksOf, h]
theorem marksOf_succ (i n : Nat) : marksOf i (n + 1) = marksOf i n ++ [markOf i n] := by simp [marksOf, List.range_succ]
theorem markOf_lt (i k : Nat) : markOf i k < 256 := Nat.mod_lt _ (by omega)
theorem marksOf_lt (i n : Nat) : ∀ x ∈ marksOf i n, x < 256 := by
  intro x hx
  obtain ⟨k, _, rfl⟩ := List.mem_map.1 hx
  exact markOf_lt i k

/-- The first bytes of one list, the others of another. -/
def mixed (l r : List Nat) (k : Nat) : List Nat := l.take k ++ r.drop k
theorem mixed_zero (l r : List Nat) : mixed l r 0 = r := by simp [mixed]
theorem mixed_all (l r : List Nat) (k : Nat) (h1 : l.length ≤ k) (h2 : r.length ≤ k) : mixed l r k = l := by simp [mixed, List.take_of_length_le h1, List.drop_eq_nil_of_le h2]
theorem mixed_get (l r : List Nat) (k : Nat) (h1 : k ≤ l.length) : (mixed l r k)[k]? = r[k]? := by
  unfold mixed
  rw [List.getElem?_append_right (by simp; omega), List.getElem?_drop]
  simp [Nat.min_eq_left h1]
theorem mixed_set (l r : List Nat) (k x : Nat) (hl : l[k]? = some x) (hr : k < r.length) : (mixed l r k).set k x = mixed l r (k + 1) := by
  have h1 : k < l.length := (List.getElem?_eq_some_iff.1 hl).1
  unfold mixed
  have e : r.drop k = r[k] :: r.drop (k + 1) := List.drop_eq_getElem_cons hr
  rw [List.set_append_right _ _ (by simp; omega), List.length_take, Nat.min_eq_left (by omega), Nat.sub_self, e, List.set_cons_zero, List.take_add_one, hl]
  simp

theorem OwnB.other {w : World} {g g' i : Nat} {bs : List Nat} {v : Value} (h : OwnB w g bs) (hne : g ≠ g') : OwnB (w.setCell ⟨g', i, none⟩ v) g bs := by
  unfold OwnB at *
  simp only [World.setCell, Array.getElem?_modify, h]
  rw [if_neg (fun e => hne e.symm)]
theorem block_other {w : World} {b g' i : Nat} {v : Value} (hne : b ≠ g') : (w.setCell ⟨g', i, none⟩ v).heap[b]? = w.heap[b]? := by
  simp only [World.setCell, Array.getElem?_modify]
  rw [if_neg (fun e => hne e.symm)]
theorem ownsRow_base {W : World} {base base' : Nat} {e : TypeId} {size : Nat} {v : Value} {k : Nat} {xs : List Value} (h : W.ownsRow base e size v k xs) (hb : base' ≤ base) : W.ownsRow base' e size v k xs := by
  refine ⟨h.1, ?_⟩
  rcases h.2 with h2 | ⟨g, cap, cur, hv, hg, r⟩
  · exact .inl h2
  · exact .inr ⟨g, cap, cur, hv, Nat.le_trans hb hg, r⟩
theorem piece_of_owns {W : World} {base base' : Nat} {a : Option Addr} {c : Nat} {bs : List Nat} (h : W.ownsRow base' 5 1 (.slice a bs.length c) bs.length (bs.map B8)) (hx : ∀ x ∈ bs, x < 256) : Piece W base a bs := by
  rcases h.2 with ⟨h1, h0⟩ | ⟨g, cap, cur, hv, _, hg, hn, _, hs, hc⟩
  · exact .inl (List.eq_nil_of_length_eq_zero h0)
  · cases hv
    refine .inr ⟨g, 0, rfl, (Array.getElem?_eq_some_iff.1 hg).1, .inr ⟨_, _, hg⟩, fun i x hx' => ⟨?_, hx x (List.mem_of_getElem? hx')⟩⟩
    have h1 : (bs.map B8)[i]? = some (B8 x) := by rw [List.getElem?_map, hx']; rfl
    have h2 : i < bs.length := (List.getElem?_eq_some_iff.1 hx').1
    rw [← hc, List.getElem?_take, if_pos (by omega)] at h1
    simp only [Nat.zero_add, World.cell?, hg]
    simpa [B8] using h1

theorem owns_cut {W : World} {base m : Nat} {e : TypeId} {v : Value} {xs : List Value} (h : W.ownsRow base e 1 v m xs) (hm : 0 < m) : ∃ g c, v = .slice (some ⟨g, 0, none⟩) m c := by
  rcases h.2 with ⟨_, h0⟩ | ⟨g, cap, cur, hv, _⟩
  · omega
  · exact ⟨g, cap, hv⟩

end Go.Proofs.Ytjbfbdnibnmfgaa
namespace Go.Proofs.Ytjbfbdnibnmfgaa
open Go.RowKit Go.Shelf
set_option linter.unusedVariables false

theorem index_b (g i len cap : Nat) (hi : i < len) (w : World) : (Instr.indexAt 28 (.slice (some ⟨g, 0, none⟩) len cap) (.int .i64 (i : Int))).run Try.prog w = .ok (.pointer (some ⟨g, i, none⟩)) w := by
  have h := index_at (t := 28) (e := 5) (sz := 1) Try.underlying28 (by kernel_rfl) g 0 i len cap hi w
  rwa [Nat.zero_add, Nat.mul_one] at h
theorem OwnL.keep {w w' : World} {g : Nat} {bs : List Nat} (h : OwnL w g bs) (e : w'.heap[g]? = w.heap[g]?) : OwnL w' g bs := e.trans h
theorem mixed_len (l r : List Nat) (k : Nat) (h1 : k ≤ l.length) (h2 : k ≤ r.length) : (mixed l r k).length = r.length := by
  unfold mixed
  rw [List.length_append, List.length_take, List.length_drop]
  omega
theorem mixed_lt (l r : List Nat) (k : Nat) (h1 : ∀ x ∈ l, x < 256) (h2 : ∀ x ∈ r, x < 256) : ∀ x ∈ mixed l r k, x < 256 := fun x hx => by
  rcases List.mem_append.1 hx with h | h
  · exact h1 x (List.mem_of_mem_take h)
  · exact h2 x (List.mem_of_mem_drop h)
theorem rep_lt (n : Nat) : ∀ x ∈ List.replicate n 0, x < 256 := fun x hx => by rw [(List.mem_replicate.1 hx).2]; omega
theorem OwnB.seg {w : World} {g : Nat} {bs : List Nat} (h : OwnB w g bs) (hx : ∀ x ∈ bs, x < 256) : Seg w g 0 bs := fun i y hy => ⟨by rw [Nat.zero_add]; exact h.cell i y hy, hx y (List.mem_of_getElem? hy)⟩
theorem shl_one (j : Nat) (hj : j < 8) : IntKind.u8.wrap ((2 : Int) ^ j) = ((2 ^ j : Nat) : Int) := by
  obtain rfl | rfl | rfl | rfl | rfl | rfl | rfl | rfl : j = 0 ∨ j = 1 ∨ j = 2 ∨ j = 3 ∨ j = 4 ∨ j = 5 ∨ j = 6 ∨ j = 7 := by omega
  all_goals rfl
set_option maxRecDepth 100000 in
set_option maxHeartbeats 400000 in
theorem bits_no (x bit : Int) (w : World) (hx : -9223372036854775808 ≤ x) (hx' : x ≤ 9223372036854775807) (hk : ¬ okS x) :
    Calls Try.prog 7 #[.int .i64 x, .int .i64 bit] w fun e w' => e = .returned (.bool true) ∧ Below w.heap.size w w' := by
  have kp : ∀ W, Calls Try.prog 8 #[.int .i64 x] W fun r w' => r = .returned (.tuple #[.agg #[.int .i64 0, .int .i64 0, .int .i64 0, .int .i64 0, .int .i64 0], .int .i64 80]) ∧ Below W.heap.size W w' := fun W => plan_no x W hx hx' hk
  have KP := hide kp
  clear kp hk
  go_enter Try.func7, Try.ntmps7
  go_wp2_with (first
    | (go_at_call 8; refine (KP.out _).mono ?_; rintro r W1 ⟨rfl, hB1⟩; have HB1 := hide (hB1.alloc (o := .cells #[.int .i64 0, .int .i64 0, .int .i64 0, .int .i64 0, .int .i64 0] 23) hB1.size); clear hB1)
    | (go_at_call 14; refine (works_any _).mono ?_; rintro r W2 ⟨rfl, hB2⟩; have HB2 := hide (HB1.out.trans (hB2.mono HB1.out.size)); clear hB2))
  go_ret
  exact ⟨rfl, HB2.out⟩
set_option maxRecDepth 100000 in
set_option maxHeartbeats 400000 in
theorem bits_ok (N m k : Nat) (bit : Int) (w : World) (hN : N = 64 * m) (hm1 : 578 ≤ m) (hm2 : m ≤ 65536) (hb : -9223372036854775808 ≤ bit) (hb' : bit ≤ 9223372036854775807) (hk : k < 512) (hbk : bit % 512 = (k : Int)) :
    Calls Try.prog 7 #[.int .i64 (N : Int), .int .i64 bit] w fun e w' => e = .returned (.bool true) ∧ Below w.heap.size w w' := by
  have hkS : okS (N : Int) := by unfold okS; omega
  have kp : ∀ W, Calls Try.prog 8 #[.int .i64 (N : Int)] W fun e w' => e = .returned (.tuple #[.agg #[.int .i64 (N : Int), .int .i64 128, .int .i64 32768, .int .i64 32896, .int .i64 (((N : Int) - 32896) / 256)], .int .i64 0]) ∧ Below W.heap.size W w' := fun W => plan_ok (N : Int) W hkS
  have kl : ∀ W, Calls Try.prog 10 #[.agg #[.int .i64 (N : Int), .int .i64 128, .int .i64 32768, .int .i64 32896, .int .i64 (((N : Int) - 32896) / 256)]] W fun e w' => ∃ g, e = .returned (.tuple #[.slice (some ⟨g, 0, none⟩) 64 64, .int .i64 0]) ∧ OwnL w' g (sbX (N : Int)) ∧ W.heap.size ≤ g ∧ Below W.heap.size W w' := fun W => line_ok (N : Int) W hkS
  have kr : ∀ (W : World) (b : Nat) (L : Lay) (bs : List Nat), DevL W b L (fromD m bs) → bs.length = N → (∀ x ∈ bs, x < 256) → Calls Try.prog 19 #[.pointer (some ⟨b, 0, none⟩)] W fun e w' => e = .returned (if (bs.take 64) = sbX (N : Int) then .tuple #[.agg #[.int .i64 (N : Int), .int .i64 128, .int .i64 32768, .int .i64 32896, .int .i64 (((N : Int) - 32896) / 256)], .int .i64 0] else .tuple #[.agg #[.int .i64 0, .int .i64 0, .int .i64 0, .int .i64 0, .int .i64 0], .int .i64 100]) ∧ Below W.heap.size W w' := fun W b L bs hd hl hx => by
    have e : ((64 * (fromD m bs).n : Nat) : Int) = (N : Int) := by show ((64 * m : Nat) : Int) = _; omega
    have h := read_any hd (fromD_ok (by omega) hm2 (by omega) hx) rfl (by rw [e]; exact hkS)
    rw [e] at h
    exact h
  have hsl := sbX_len (N : Int)
  have hsx := sbX_lt (N : Int)
  generalize sbX (N : Int) = sb at *
  generalize ((N : Int) - 32896) / 256 = q at *
  have hmk := run_make_row' (P := Try.prog) 28 5 (.int .u8 0) 1 Try.underlying28 Try.info5 rfl .i64 .i64 N (by omega) (by omega)
  have KP := hide kp
  have KL := hide kl
  have KR := hide kr
  have HSL := hide hsl
  have HSX := hide hsx
  have HN := hide hN
  have HM1 := hide hm1
  have HM2 := hide hm2
  have HK := hide hk
  clear kp kl kr hsl hsx hkS hN hm1 hm2 hk
  have NI : (N : Int) ≤ 4194304 := by have := HN.out; have := HM2.out; omega
  have ht : (bit.tmod 512 < 0 ∧ bit.tmod 512 + 512 = (k : Int)) ∨ (¬ bit.tmod 512 < 0 ∧ bit.tmod 512 = (k : Int)) := by
    have h1 := Int.mul_tdiv_add_tmod bit 512
    have h2 : bit.tmod 512 < 512 := Int.tmod_lt_of_pos bit (by omega)
    have h3 := Int.lt_tmod_of_pos bit (show (0 : Int) < 512 by omega)
    omega
  obtain ⟨t, htt⟩ : ∃ t, bit.tmod 512 = t := ⟨_, rfl⟩
  rw [htt] at ht
  clear hbk
  have kI : (k : Int) < 512 := by have := HK.out; omega
  rcases ht with ⟨ht1, ht2⟩ | ⟨ht1, ht2⟩
  all_goals
    go_enter Try.func7, Try.ntmps7
    go_upto_region 10 with (first
      | (go_at_call 8; refine (KP.out _).mono ?_; rintro r W1 ⟨rfl, hB1⟩; have HB1 := hide (hB1.alloc (o := .cells #[.int .i64 (N : Int), .int .i64 128, .int .i64 32768, .int .i64 32896, .int .i64 q] 23) hB1.size); clear hB1)
      | (go_at_call 10; refine (KL.out _).mono ?_; rintro e W2 ⟨g, rfl, ho2, hg2, hB2⟩; have HP2 := hide (row_after hB2); have HO2 := hide ho2; have HB2 := hide (HB1.out.trans (hB2.mono HB1.out.size)); clear ho2 hg2 hB2))
    have dk : decide ((k : Int) < 0) = false := decide_eq_false (by omega)
    try simp only [dk]
    clear dk
    have hom : OwnB (W2.alloc (.cells (madeCells #[.int .u8 0] N) 5)) W2.heap.size (mixed sb (List.replicate N 0) 0) := by rw [mixed_zero]; exact OwnB.made W2 N
    have hlm : OwnL (W2.alloc (.cells (madeCells #[.int .u8 0] N) 5)) g sb := row_keep HO2.out ((Below.refl _ W2).alloc (Nat.le_refl _) _)
    have hbm : Below W2.heap.size W2 (W2.alloc (.cells (madeCells #[.int .u8 0] N) 5)) := (Below.refl _ W2).alloc (Nat.le_refl _) _
    have hgl : g < W2.heap.size := lt_of_heap HO2.out
    have HOM := hide hom
    have HLM := hide hlm
    have HBM := hide hbm
    have HGL := hide hgl
    clear hom hlm hbm hgl
    go_wp2
    go_loopw [9] (fun iv wr => ∃ i : Nat, iv = .int .i64 (i : Int) ∧ i ≤ 64 ∧ OwnB wr W2.heap.size (mixed sb (List.replicate N 0) i) ∧ OwnL wr g sb ∧ Below W2.heap.size W2 wr) (fun iv _ => (64 - (intOf iv).toNat))
    case atStart => exact ⟨0, rfl, by omega, HOM.out, HLM.out, HBM.out⟩
    case round =>
      clear HOM HLM HBM hmk
      obtain ⟨i, rfl, hi, hO, hL, hB⟩ := hrel
      have hn64 : 64 ≤ N := by have := HN.out; have := HM1.out; omega
      by_cases hlt : i < 64
      · have iI : (i : Int) < 64 := by omega
        obtain ⟨y, hy⟩ : ∃ y, sb[i]? = some y := ⟨_, List.getElem?_eq_getElem (by rw [HSL.out]; exact hlt)⟩
        have c1 := hL.cell i y hy
        have c2 := hO.cell i 0 (by rw [mixed_get _ _ _ (by rw [HSL.out]; omega), List.getElem?_replicate, if_pos (by omega)])
        have f2 := hO.frozen i
        have x1 := fun X => index_b g i 64 64 hlt X
        have x2 := fun X => index_b W2.heap.size i N N (by omega) X
        have hnew := hO.set i y
        rw [mixed_set _ _ i y hy (by rw [List.length_replicate]; omega)] at hnew
        have HNEW := hide hnew
        have HLN := hide (hL.keep (block_other (w := wr) (b := g) (g' := W2.heap.size) (i := i) (v := .int .u8 (y : Int)) (by have := HGL.out; omega)))
        have HBN := hide (hB.setCell (p := ⟨W2.heap.size, i, none⟩) (Nat.le_refl _) (.int .u8 (y : Int)))
        clear hO hL hB hy hnew hn64
        go_wp2
        go_roundw
        case rel => exact ⟨i + 1, int_congrP (by omega), by omega, HNEW.out, HLN.out, HBN.out⟩
        case measure => simp [intOf]; omega
      · obtain rfl : i = 64 := by omega
        obtain ⟨B0, hB0⟩ : ∃ B0, B0 = mixed sb (List.replicate N 0) 64 := ⟨_, rfl⟩
        have hl0 : B0.length = N := by rw [hB0, mixed_len _ _ _ (by rw [HSL.out]; omega) (by rw [List.length_replicate]; omega), List.length_replicate]
        have hx0 : ∀ x ∈ B0, x < 256 := by rw [hB0]; exact mixed_lt _ _ _ HSX.out (rep_lt N)
        have ht0 : B0.take 64 = sb := by
          rw [hB0]
          unfold mixed
          rw [List.take_of_length_le (l := sb) (by rw [HSL.out]; omega), List.take_append_of_le_length (by rw [HSL.out]; omega), List.take_of_length_le (by rw [HSL.out]; omega)]
        rw [← hB0] at hO
        have kf := pfrom_any wr W2.heap.size 0 N N m B0 (hO.seg hx0) hO.lt hl0 HN.out (by have := HM1.out; omega) HM2.out hx0 (Nat.le_refl _)
        have KF := hide kf
        have HO := hide hO
        have HBW := hide (HB2.out.trans (hB.mono HB2.out.size))
        have HPW := hide (row_keep HP2.out hB)
        have HL0 := hide hl0
        have HX0 := hide hx0
        have HT0 := hide ht0
        clear kf hO hL hB hl0 hx0 ht0 hB0
        go_upto_region 17 with (first
          | (go_at_call 16; refine (KF.out).mono ?_; rintro r W3 ⟨b1, L1, rfl, hd1, _, hb3, _⟩; have k := KR.out W3 b1 L1 B0 hd1 HL0.out HX0.out; rw [if_pos HT0.out] at k; have KR1 := hide k; have HB3 := hide hb3; clear k hd1 hb3)
          | (go_at_call 19; refine (KR1.out).mono ?_; rintro r W4 ⟨rfl, hB4⟩; have HB4 := hide (bseq HB3.out hB4); clear hB4))
        have wb := HB4.out.block W2.heap.size HO.out.lt
        have ho4 : OwnB (W4.alloc (.cells #[.int .i64 (N : Int), .int .i64 128, .int .i64 32768, .int .i64 32896, .int .i64 q] 23)) W2.heap.size B0 := OwnB.of_block HO.out ((((Below.refl _ W4).alloc (Nat.le_refl _) _).block _ (Nat.lt_of_lt_of_le HO.out.lt HB4.out.size)).trans wb)
        obtain ⟨ki, hki⟩ : ∃ ki : Nat, ki = k / 8 := ⟨_, rfl⟩
        obtain ⟨j, hj⟩ : ∃ j : Nat, j = k % 8 := ⟨_, rfl⟩
        have hk5 := HK.out
        have q1 : (k : Int).tdiv 8 = (ki : Int) := by rw [Int.tdiv_eq_ediv_of_nonneg (by omega)]; omega
        have q2 : (k : Int) / 8 = (ki : Int) := by omega
        have r1 : (k : Int).tmod 8 = (j : Int) := by rw [Int.tmod_eq_emod_of_nonneg (by omega)]; omega
        have r2 : (k : Int) % 8 = (j : Int) := by omega
        have hki2 : ki < 64 := by omega
        have hj2 : j < 8 := by omega
        have hn64 : 64 ≤ N := by have := HN.out; have := HM1.out; omega
        obtain ⟨y, hy⟩ : ∃ y, sb[ki]? = some y := ⟨_, List.getElem?_eq_getElem (by rw [HSL.out]; exact hki2)⟩
        have hy2 : B0[ki]? = some y := by rw [← hy, ← HT0.out, List.getElem?_take, if_pos hki2]
        have hy3 : y < 256 := HX0.out y (List.mem_of_getElem? hy2)
        obtain ⟨p, hp⟩ : ∃ p : Nat, p = 2 ^ j := ⟨_, rfl⟩
        have hp2 : p < 256 ∧ 0 < p := by rw [hp]; exact ⟨Nat.lt_of_lt_of_le (Nat.pow_lt_pow_right (by omega) hj2) (by decide), Nat.pow_pos (by omega)⟩
        have hsh : IntKind.u8.wrap ((2 : Int) ^ j) = (p : Int) := by rw [hp]; exact shl_one j hj2
        have wk : IntKind.i64.wrap (ki : Int) = (ki : Int) := by rw [IntKind.wrap_i64]; omega
        have hxo : bits BinOp.xor IntKind.u8 (y : Int) (p : Int) = ((y ^^^ p : Nat) : Int) := u8_xor_nat y p hy3 hp2.1
        have hzl : y ^^^ p < 256 := Nat.xor_lt_two_pow (n := 8) hy3 hp2.1
        have hzn : y ^^^ p ≠ y := fun e => by have h5 : y ^^^ (y ^^^ p) = p := (by rw [← Nat.xor_assoc, Nat.xor_self, Nat.zero_xor]); rw [e, Nat.xor_self] at h5; omega
        generalize hze : y ^^^ p = zz at *
        have hl1 : (B0.set ki zz).length = N := by rw [List.length_set]; exact HL0.out
        have hx1 : ∀ x ∈ B0.set ki zz, x < 256 := fun x hx => by exact (List.mem_or_eq_of_mem_set hx).elim (fun h => HX0.out x h) (fun h => h ▸ hzl)
        have hn1 : ¬ (B0.set ki zz).take 64 = sb := fun e => by have h5 := hy; rw [← e, List.getElem?_take, if_pos hki2, List.getElem?_set_self (by rw [HL0.out]; omega)] at h5; exact hzn (by injection h5)
        have c4 := ho4.cell ki y hy2
        have f4 := ho4.frozen ki
        have ho5 := OwnB.set ho4 ki zz
        have x2 := fun X => index_b W2.heap.size ki N N (by omega) X
        have KF2 := hide (fun W (h5 : OwnB W W2.heap.size (B0.set ki zz)) => pfrom_any W W2.heap.size 0 N N m (B0.set ki zz) (h5.seg hx1) h5.lt hl1 HN.out (by have := HM1.out; omega) HM2.out hx1 (Nat.le_refl _))
        have HO5 := hide ho5
        have HL1 := hide hl1
        have HX1 := hide hx1
        have HN1 := hide hn1
        have C4 := hide c4
        have F4 := hide f4
        have HB4w := hide (HBW.out.trans (HB4.out.mono HBW.out.size))
        clear wb ho4 hki hj hk5 hki2 hj2 hn64 hy hy2 hy3 hp hp2 hzl hzn hze hl1 hx1 hn1 ho5 KF KR1
        refine wp_region_early 13 (fun X => X.cell? ⟨W2.heap.size, ki, none⟩ = some (.int .u8 (y : Int))) (by kernel_rfl) C4.out (fun hS => ?_)
        refine wpAnyE_take (i := 0) (v := (.slice (some ⟨W2.heap.size, 0, none⟩) N N)) rfl (by kernel_rfl) (by kernel_rfl) (by kernel_rfl) (by kernel_rfl) (fun _ _ _ h => h) (Or.inl ⟨by kernel_rfl, fun w' hw => by (go_simp)⟩) hS ?_
        refine wpAnyE_take (i := 1) (v := (.int .i64 (k : Int))) rfl (by kernel_rfl) (by kernel_rfl) (by kernel_rfl) (by kernel_rfl) (fun _ _ _ h => h) (Or.inl ⟨by kernel_rfl, fun w' hw => by (go_simp)⟩) hS ?_
        refine wpAnyE_take (i := 2) (v := (.int .i64 (ki : Int))) rfl (by kernel_rfl) (by kernel_rfl) (by kernel_rfl) (by kernel_rfl) (fun _ _ _ h => h) (Or.inl ⟨by kernel_rfl, fun w' hw => by (go_simp)⟩) hS ?_
        refine wpAnyE_take (i := 3) (v := (.slice (some ⟨W2.heap.size, 0, none⟩) N N)) rfl (by kernel_rfl) (by kernel_rfl) (by kernel_rfl) (by kernel_rfl) (fun _ _ _ h => h) (Or.inl ⟨by kernel_rfl, fun w' hw => by (go_simp)⟩) hS ?_
        refine wpAnyE_take (i := 4) (v := (.int .i64 (k : Int))) rfl (by kernel_rfl) (by kernel_rfl) (by kernel_rfl) (by kernel_rfl) (fun _ _ _ h => h) (Or.inl ⟨by kernel_rfl, fun w' hw => by (go_simp)⟩) hS ?_
        refine wpAnyE_take (i := 5) (v := (.int .i64 (ki : Int))) rfl (by kernel_rfl) (by kernel_rfl) (by kernel_rfl) (by kernel_rfl) (fun _ _ _ h => h) (Or.inl ⟨by kernel_rfl, fun w' hw => by (go_simp)⟩) hS ?_
        refine wpAnyE_take (i := 6) (v := (.pointer (some ⟨W2.heap.size, ki, none⟩))) rfl (by kernel_rfl) (by kernel_rfl) (by kernel_rfl) (by kernel_rfl) (fun _ _ _ h => h) (Or.inl ⟨by kernel_rfl, fun w' hw => by (have e := x2 w'; go_simp)⟩) hS ?_
        refine wpAnyE_take (i := 7) (v := (.int .u8 (y : Int))) rfl (by kernel_rfl) (by kernel_rfl) (by kernel_rfl) (by kernel_rfl) (fun _ _ _ h => h) (Or.inl ⟨by kernel_rfl, fun w' hw => by (have z0 := hw; go_simp)⟩) hS ?_
        refine wpAnyE_take (i := 8) (v := (.int .i64 (k : Int))) rfl (by kernel_rfl) (by kernel_rfl) (by kernel_rfl) (by kernel_rfl) (fun _ _ _ h => h) (Or.inl ⟨by kernel_rfl, fun w' hw => by (go_simp)⟩) hS ?_
        refine wpAnyE_take (i := 9) (v := (.int .i64 (j : Int))) rfl (by kernel_rfl) (by kernel_rfl) (by kernel_rfl) (by kernel_rfl) (fun _ _ _ h => h) (Or.inl ⟨by kernel_rfl, fun w' hw => by (go_simp)⟩) hS ?_
        refine wpAnyE_take (i := 10) (v := (.int .u8 (p : Int))) rfl (by kernel_rfl) (by kernel_rfl) (by kernel_rfl) (by kernel_rfl) (fun _ _ _ h => h) (Or.inl ⟨by kernel_rfl, fun w' hw => by (go_simp)⟩) hS ?_
        refine wpAnyE_take (i := 11) (v := (.int .u8 (zz : Int))) rfl (by kernel_rfl) (by kernel_rfl) (by kernel_rfl) (by kernel_rfl) (fun _ _ _ h => h) (Or.inl ⟨by kernel_rfl, fun w' hw => by (go_simp)⟩) hS ?_
        refine wpAnyE_take (i := 12) (v := (.pointer (some ⟨W2.heap.size, ki, none⟩))) rfl (by kernel_rfl) (by kernel_rfl) (by kernel_rfl) (by kernel_rfl) (fun _ _ _ h => h) (Or.inl ⟨by kernel_rfl, fun w' hw => by (have e := x2 w'; go_simp)⟩) hS ?_
        refine wpAnyE_last (by kernel_rfl) rfl (by kernel_rfl) (by kernel_rfl) (fun K hK => ?_)
        have c4 := C4.out
        have f4 := F4.out
        go_simp
        refine hK.out _ _ ?_
        try simp only [Act.put, List.getElem_toArray, List.getElem_cons_zero, List.getElem_cons_succ, List.setIfInBounds_toArray, List.set_cons_zero, List.set_cons_succ]
        clear hK K
        have hb5 : Below w.heap.size w (((W4.alloc (.cells #[.int .i64 (N : Int), .int .i64 128, .int .i64 32768, .int .i64 32896, .int .i64 q] 23)).setCell ⟨W2.heap.size, ki, none⟩ (.int .u8 (zz : Int))).drew) := ((HB4w.out.alloc (o := .cells #[.int .i64 (N : Int), .int .i64 128, .int .i64 32768, .int .i64 32896, .int .i64 q] 23) HB4w.out.size).setCell (p := ⟨W2.heap.size, ki, none⟩) HB2.out.size (.int .u8 (zz : Int))).drew
        have hp5 : (((W4.alloc (.cells #[.int .i64 (N : Int), .int .i64 128, .int .i64 32768, .int .i64 32896, .int .i64 q] 23)).setCell ⟨W2.heap.size, ki, none⟩ (.int .u8 (zz : Int))).drew).heap[W4.heap.size]? = some (.cells #[.int .i64 (N : Int), .int .i64 128, .int .i64 32768, .int .i64 32896, .int .i64 q] 23 (0, 0)) := (block_other (w := (W4.alloc (.cells #[.int .i64 (N : Int), .int .i64 128, .int .i64 32768, .int .i64 32896, .int .i64 q] 23))) (b := W4.heap.size) (g' := W2.heap.size) (i := ki) (v := .int .u8 (zz : Int)) (by have := HO.out.lt; have := HB4.out.size; omega)).trans (heap_alloc_new W4 _)
        have hq5 : (((W4.alloc (.cells #[.int .i64 (N : Int), .int .i64 128, .int .i64 32768, .int .i64 32896, .int .i64 q] 23)).setCell ⟨W2.heap.size, ki, none⟩ (.int .u8 (zz : Int))).drew).heap[W1.heap.size]? = some (.cells #[.int .i64 (N : Int), .int .i64 128, .int .i64 32768, .int .i64 32896, .int .i64 q] 23 (0, 0)) := (block_other (w := (W4.alloc (.cells #[.int .i64 (N : Int), .int .i64 128, .int .i64 32768, .int .i64 32896, .int .i64 q] 23))) (b := W1.heap.size) (g' := W2.heap.size) (i := ki) (v := .int .u8 (zz : Int)) (by have := lt_of_heap HP2.out; omega)).trans (row_keep (row_keep HPW.out HB4.out) ((Below.refl _ W4).alloc (Nat.le_refl _) _))
        have ho6 : OwnB (((W4.alloc (.cells #[.int .i64 (N : Int), .int .i64 128, .int .i64 32768, .int .i64 32896, .int .i64 q] 23)).setCell ⟨W2.heap.size, ki, none⟩ (.int .u8 (zz : Int))).drew) W2.heap.size (B0.set ki zz) := HO5.out
        generalize (((W4.alloc (.cells #[.int .i64 (N : Int), .int .i64 128, .int .i64 32768, .int .i64 32896, .int .i64 q] 23)).setCell ⟨W2.heap.size, ki, none⟩ (.int .u8 (zz : Int))).drew) = W5 at *
        have HB5 := hide hb5
        have HP5 := hide hp5
        have HQ5 := hide hq5
        have HO6 := hide ho6
        clear hb5 hp5 hq5 ho6 c4 f4 C4 F4 HO5 hS
        have hg := Try.noGuard23
        have he := fun W => eql_su (N : Int) 128 32768 32896 q (N : Int) 128 32768 32896 q W
        have hs : sameS (N : Int) 128 32768 32896 q (N : Int) 128 32768 32896 q = true := by simp [sameS]
        rw [hs] at he
        clear hs
        go_wp2_with (first
          | (go_at_call 16; go_loud (refine (KF2.out _ HO6.out).mono ?_); rintro r W6 ⟨b2, L2, rfl, hd2, _, hb6, _⟩; have k := KR.out W6 b2 L2 _ hd2 HL1.out HX1.out; rw [if_neg HN1.out] at k; have KR2 := hide k; have HB6 := hide hb6; clear k hd2 hb6)
          | (go_at_call 19; refine (KR2.out).mono ?_; rintro r W7 ⟨rfl, hB7⟩; have hb7 := bseq HB6.out hB7; have hb8 := hb7.alloc (o := .cells #[.int .i64 0, .int .i64 0, .int .i64 0, .int .i64 0, .int .i64 0] 23) hb7.size; obtain ⟨c0, c1, c2, c3, c4⟩ := suBox (row_keep HP5.out hb8); obtain ⟨k0, k1, k2, k3, k4⟩ := suBox (row_keep HQ5.out hb8); have HB8 := hide (HB5.out.trans (hb8.mono HB5.out.size)); clear hB7 hb7 hb8)
          | (go_at_call 14; refine (works_any _).mono ?_; rintro r W9 ⟨rfl, hB9⟩; have HB9 := hide (HB8.out.trans (hB9.mono HB8.out.size)); clear hB9))
        go_ret
        exact ⟨by simp, HB9.out⟩
theorem superBits_walk (x bit : Int) (w : World) (hx : -9223372036854775808 ≤ x) (hx' : x ≤ 9223372036854775807) (hb : -9223372036854775808 ≤ bit) (hb' : bit ≤ 9223372036854775807) :
    Calls Try.prog 7 #[.int .i64 x, .int .i64 bit] w fun e w' => e = .returned (.bool true) ∧ Below w.heap.size w w' := by
  by_cases hk : okS x
  · obtain ⟨h1, h2, h3⟩ := hk
    obtain ⟨N, rfl⟩ : ∃ N : Nat, x = (N : Int) := ⟨x.toNat, by omega⟩
    exact bits_ok N (N / 64) (bit % 512).toNat bit w (by omega) (by omega) (by omega) hb hb' (by omega) (by omega)
  · exact bits_no x bit w hx hx' hk
end Go.Proofs.Ytjbfbdnibnmfgaa
namespace Go.Proofs.Ytjbfbdnibnmfgaa
open Go.ChangeShapes Go.WideShapes Go.ChangeAt Go.RowKit
set_option linter.unusedVariables false

theorem own : ownKnob Try.prog.godebug = none := by kernel_rfl
theorem laidOut : laidOutB Try.prog = true := by kernel_rfl
theorem size_of_sized {s : ByteArray} (h : s.data.toList.length ≤ reachBytes) : s.size ≤ 140737488351232 := by
  have : s.data.toList.length = s.size := by simp
  have e : reachBytes = 140737488351232 := by decide
  omega
theorem bulk_pos {H : Type} (d : DataW H) : 1 ≤ Rows.uptoBulk d := by
  cases d with
  | lit l => cases l <;> simp [Rows.uptoBulk]
  | _ => simp [Rows.uptoBulk]
theorem bulk_len {H : Type} (l : List (DataW H)) : l.length ≤ Rows.uptoBulkAll l := by
  induction l with
  | nil => simp [Rows.uptoBulkAll]
  | cons d r ih =>
    have := bulk_pos d
    simp only [Rows.uptoBulkAll, List.length_cons]
    omega
theorem bulk_string {H : Type} (s : ByteArray) : s.size ≤ Rows.uptoBulk (H := H) (.lit (.string s.data.toList)) := by
  simp [Rows.uptoBulk]
theorem bulk_nums {H : Type} {d : DataW H} {zs : List Int} (h : d = .nil ∧ zs = [] ∨ ∃ el sp, d = .slice el sp ∧ el.length = zs.length) : zs.length ≤ Rows.uptoBulk d := by
  rcases h with ⟨_, rfl⟩ | ⟨el, sp, rfl, h⟩
  · simp
  · have := bulk_len el
    simp only [Rows.uptoBulk]
    omega
theorem bulk_of {H : Type} {l : List (DataW H)} (h : Rows.uptoSmall H l = true) : Rows.uptoBulkAll l ≤ 1048576 := of_decide_eq_true h

theorem Try.bytes32 : Try.prog.bytesOf 21 = 4 := by kernel_rfl
end Go.Proofs.Ytjbfbdnibnmfgaa
namespace Go.Proofs.Ytjbfbdnibnmfgaa.superBits
open Go.ChangeShapes Go.WideShapes Go.ChangeAt Go.RowKit Go.Proofs.Ytjbfbdnibnmfgaa
set_option linter.unusedVariables false

set_option maxRecDepth 100000 in
theorem lifted (os : Os) (started : os.Started) (H : Type) (enc : TypeId × Value → H) :
    ReturnsInHanded {} Try.checked os 7 .any (Rows.superBitsSpec.pre6 enc Try.prog Try.f7 Rows.superBitsRow.domain false) (Rows.superBitsSpec.post enc Try.prog Try.f7 false true false false) := by
  refine returnsInHanded_of_change (C := Try.checked) own started (by kernel_rfl) Try.func7
    (ChangeSpec.witness6 (enc := enc) (C := Try.checked) false ⟨#[], #[.int .i64 0, .int .i64 0], []⟩ 8 (by kernel_rfl) (by kernel_rfl) (by kernel_rfl) (by kernel_rfl)) ?_
  intro W base args ds gs before hval0 hW hcnd _
  have hval : ∀ (j : Nat) t v, Try.f7.params[j]? = some t → args[j]? = some v → Value.okWide Try.prog W .any base t v := hval0
  have hW' := hW
  obtain ⟨p, q, hA0, hV, rfl, hfz, hnd⟩ := hW
  have hA : DataW.TrodAll enc Try.prog W 0 (fun _ => true) true Try.f7.params.toList args.toList ds p := hA0
  rw [Try.params7] at hA hval
  obtain ⟨v0, vs0, d0, ds0, p0, q0, hargs, rfl, rfl, h0, r0⟩ := trodAll_cons hA
  obtain ⟨v1, vs1, d1, ds1, p1, q1, rfl, rfl, rfl, h1, r1⟩ := trodAll_cons r0
  obtain ⟨rfl, rfl, rfl⟩ := trodAll_nil r1
  obtain rfl : args = #[v0, v1] := by cases args; simp_all
  obtain ⟨rfl, rfl⟩ := trodVars_none hV
  obtain ⟨a0, rfl, rfl, rfl, w0⟩ := open_int Try.underlying3 (hval 0 3 v0 rfl rfl) h0
  have b0 := bounds_i64 w0
  obtain ⟨a1, rfl, rfl, rfl, w1⟩ := open_int Try.underlying3 (hval 1 3 v1 rfl rfl) h1
  have b1 := bounds_i64 w1
  clear hval0
  clear hA0
  refine (superBits_walk a0 a1 W b0.1 b0.2 b1.1 b1.2).mono fun e W' ⟨he, bel⟩ => ?_
  subst he
  exact ⟨_, rfl, _, _, _, [], _, [], hW', trodAll_mk1 (shut_bool Try.underlying4 _), (trodAll_cons_mk (shut_int Try.underlying3 w0) (trodAll_cons_mk (shut_int Try.underlying3 w1) trodAll_mk0)), rfl, bel.frame _, fun h => by cases h⟩

theorem over : Rows.superBitsRow.holds Try.pinned (OpenSpec.ofChange Rows.superBitsSpec) :=
  OpenClaim.holds_of_wide 7 Try.f7 rfl rfl rfl rfl rfl rfl rfl ⟨rfl, rfl, rfl, rfl, rfl⟩ rfl rfl rfl rfl rfl (by kernel_rfl) Try.func7 (by kernel_rfl)
    (of_decide_eq_true (by kernel_rfl)) (by unfold Func.isWrapper; first | (rw [if_pos (by decide +kernel)]; kernel_rfl) | (rw [if_neg (by decide +kernel)]; exact ⟨rfl, rfl⟩))
    (fun os started H enc _ => lifted os started H enc)

end Go.Proofs.Ytjbfbdnibnmfgaa.superBits

namespace Go.Proofs.Ytjbfbdnibnmfgaa
/-- SuperBits, as it is stated. -/
theorem superBits_holds : Rows.SuperBitsSaid := superBits.over
#print axioms superBits_holds
end Go.Proofs.Ytjbfbdnibnmfgaa
