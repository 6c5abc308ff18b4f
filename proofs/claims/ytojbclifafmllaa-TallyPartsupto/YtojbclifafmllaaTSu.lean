/- What tally.Sum answers, of every list of tallies. -/
import Derived.Test.YtojbclifafmllaaTJm
namespace Go.Proofs.Ytojbclifafmllaa
open Go.RowKit
set_option linter.unusedVariables false

/-- A tally as a value. -/
def tv (x : (Int × Int × Int × ByteArray × ByteArray)) : Value := .agg #[.int .i64 x.1, .int .i64 x.2.1, .int .i64 x.2.2.1, .string x.2.2.2.1, .string x.2.2.2.2]
def zT : (Int × Int × Int × ByteArray × ByteArray) := (0, 0, 0, ⟨#[]⟩, ⟨#[]⟩)
/-- What a row of tallies holds. -/
def SlT (W : World) (a : Option Addr) (xs : List (Int × Int × Int × ByteArray × ByteArray)) : Prop := xs = [] ∨ ∃ b off, a = some ⟨b, off, none⟩ ∧ b < W.heap.size ∧ ∀ (i : Nat) (x : (Int × Int × Int × ByteArray × ByteArray)), xs[i]? = some x →
  W.cell? ⟨b, off + i * 5, none⟩ = some (.int .i64 x.1) ∧ W.cell? ⟨b, off + i * 5 + 1, none⟩ = some (.int .i64 x.2.1) ∧ W.cell? ⟨b, off + i * 5 + 2, none⟩ = some (.int .i64 x.2.2.1) ∧ W.cell? ⟨b, off + i * 5 + 3, none⟩ = some (.string x.2.2.2.1) ∧ W.cell? ⟨b, off + i * 5 + 4, none⟩ = some (.string x.2.2.2.2)
theorem SlT.below {W W' : World} {a : Option Addr} {xs : List (Int × Int × Int × ByteArray × ByteArray)} (h : SlT W a xs) (hB : Below W.heap.size W W') : SlT W' a xs := by
  rcases h with h | ⟨b, off, ha, hb, hc⟩
  · exact .inl h
  · refine .inr ⟨b, off, ha, Nat.lt_of_lt_of_le hb hB.size, fun i x hx => ?_⟩
    obtain ⟨c0, c1, c2, c3, c4⟩ := hc i x hx
    exact ⟨cell_below c0 hB hb, cell_below c1 hB hb, cell_below c2 hB hb, cell_below c3 hB hb, cell_below c4 hB hb⟩
/-- The error that Join answers, and the tally, where there is none. -/
def jE2 (p q : (Int × Int × Int × ByteArray × ByteArray)) : Int := jE p.1 p.2.1 p.2.2.1 p.2.2.2.1 p.2.2.2.2 q.1 q.2.1 q.2.2.1 q.2.2.2.1 q.2.2.2.2
def jT2 (p q : (Int × Int × Int × ByteArray × ByteArray)) : (Int × Int × Int × ByteArray × ByteArray) := (p.1 + q.1, p.2.1 + q.2.1 + (seamT p.2.2.2.2 q.2.2.2.1).1, jL p.2.2.1 q.2.2.1 (seamT p.2.2.2.2 q.2.2.2.1).2, jH p.2.2.2.1 q.2.2.2.1, jT p.2.2.2.2 q.2.2.2.2)
def sumV : (Int × Int × Int × ByteArray × ByteArray) → List (Int × Int × Int × ByteArray × ByteArray) → (Int × Int × Int × ByteArray × ByteArray) × Int
  | acc, [] => (acc, 0)
  | acc, x :: xs => if jE2 acc x = 0 then sumV (jT2 acc x) xs else (zT, jE2 acc x)
theorem keepA {W : World} {B : Nat} {o o' : Obj} (h : W.heap[B]? = some o) : (W.alloc o').heap[B]? = some o := by
  rw [Below.heap_alloc _ _ _ (Array.getElem?_eq_some_iff.1 h).1]
  exact h
theorem jE_size {ab ac al : Int} {ah at' : ByteArray} {bb bc bl' : Int} {bh bt : ByteArray} (h : jE ab ac al ah at' bb bc bl' bh bt = 0) : ab + bb ≤ 9223372036854775807 := by
  unfold jE at h
  split at h
  · omega
  · split at h <;> omega

set_option maxHeartbeats 4000000 in
theorem sum_any (a : Option Addr) (cap : Nat) (xs : List (Int × Int × Int × ByteArray × ByteArray)) (w : World) (hx : SlT w a xs) (hb : ∀ x ∈ xs, x.1 ≤ 9223372036854775807) (hl : xs.length ≤ 9223372036854775807) :
    Calls Try.prog 26 #[.slice a xs.length cap] w fun e w' => e = .returned (.tuple #[tv (sumV zT xs).1, .int .i64 (sumV zT xs).2]) ∧ Below w.heap.size w w' := by
  have HX := hide hx
  have HBD := hide hb
  clear hx hb
  have hrs : ((w.alloc (.cells #[.int .i64 0, .int .i64 0, .int .i64 0, .string ⟨#[]⟩, .string ⟨#[]⟩] 24)).alloc (.cells #[.int .i64 0, .int .i64 0, .int .i64 0, .string ⟨#[]⟩, .string ⟨#[]⟩] 24)).heap[w.heap.size]? = some (.cells #[.int .i64 0, .int .i64 0, .int .i64 0, .string ⟨#[]⟩, .string ⟨#[]⟩] 24 (0, 0)) := by
    rw [Below.heap_alloc _ _ _ (by simp)]
    exact heap_alloc_new w _
  have hra := heap_alloc2_new w (.cells #[.int .i64 0, .int .i64 0, .int .i64 0, .string ⟨#[]⟩, .string ⟨#[]⟩] 24) (.cells #[.int .i64 0, .int .i64 0, .int .i64 0, .string ⟨#[]⟩, .string ⟨#[]⟩] 24)
  have hBb : Below w.heap.size w ((w.alloc (.cells #[.int .i64 0, .int .i64 0, .int .i64 0, .string ⟨#[]⟩, .string ⟨#[]⟩] 24)).alloc (.cells #[.int .i64 0, .int .i64 0, .int .i64 0, .string ⟨#[]⟩, .string ⟨#[]⟩] 24)) := ((Below.refl _ w).alloc (Nat.le_refl _) _).alloc (by simp) _
  have HRS := hide hrs
  have HRA := hide hra
  have HBB := hide hBb
  clear hrs hra hBb
  go_enter Try.func26, Try.ntmps26
  go_wp2_with (fail)
  go_loopw [10] (fun i wr => ∃ (k : Nat) (ab ac al : Int) (ah at' : ByteArray), i = .int .i64 k ∧ k ≤ xs.length ∧ ab ≤ 9223372036854775807 ∧ sumV (ab, ac, al, ah, at') (xs.drop k) = sumV zT xs ∧
      wr.heap[w.heap.size]? = some (.cells #[.int .i64 0, .int .i64 0, .int .i64 0, .string ⟨#[]⟩, .string ⟨#[]⟩] 24 (0, 0)) ∧
      wr.heap[w.heap.size + 1]? = some (.cells #[.int .i64 ab, .int .i64 ac, .int .i64 al, .string ah, .string at'] 24 (0, 0)) ∧ Below w.heap.size w wr) (fun i _ => xs.length - (intOf i).toNat)
  case atStart => exact ⟨0, 0, 0, 0, ⟨#[]⟩, ⟨#[]⟩, rfl, by omega, by omega, rfl, HRS.out, HRA.out, HBB.out⟩
  case round =>
    clear HRS HRA HBB
    obtain ⟨k, ab, ac, al, ah, at', rfl, hk, hab, hsum, hrs, hra, hB⟩ := hrel
    have hsz : w.heap.size + 1 < wr.heap.size := (Array.getElem?_eq_some_iff.1 hra).1
    by_cases hlt : k < xs.length
    · obtain ⟨x, hx⟩ : ∃ x, xs[k]? = some x := ⟨_, List.getElem?_eq_getElem hlt⟩
      have hxb := HBD.out x (List.mem_of_getElem? hx)
      have hdr : xs.drop k = x :: xs.drop (k + 1) := by
        rw [List.drop_eq_getElem_cons hlt]
        congr 1
        exact Option.some.inj ((List.getElem?_eq_getElem hlt).symm.trans hx)
      rw [hdr] at hsum
      obtain ⟨b0, off, rfl, hb0, hcl⟩ : ∃ b off, a = some ⟨b, off, none⟩ ∧ b < wr.heap.size ∧ ∀ (i : Nat) (x : (Int × Int × Int × ByteArray × ByteArray)), xs[i]? = some x → wr.cell? ⟨b, off + i * 5, none⟩ = some (.int .i64 x.1) ∧ wr.cell? ⟨b, off + i * 5 + 1, none⟩ = some (.int .i64 x.2.1) ∧ wr.cell? ⟨b, off + i * 5 + 2, none⟩ = some (.int .i64 x.2.2.1) ∧ wr.cell? ⟨b, off + i * 5 + 3, none⟩ = some (.string x.2.2.2.1) ∧ wr.cell? ⟨b, off + i * 5 + 4, none⟩ = some (.string x.2.2.2.2) := by
        rcases HX.out.below hB with h | h
        · rw [h] at hlt; simp at hlt
        · exact h
      obtain ⟨v0, v1, v2, v3, v4⟩ := hcl k x hx
      obtain ⟨bb, bc, bl', bh, bt⟩ := x
      dsimp only at *
      have hlt' : (k : Int) < (xs.length : Int) := by omega
      have kj := fun w => join_ok ab ac al ah at' bb bc bl' bh bt w hab hxb
      have hjs : jE2 (ab, ac, al, ah, at') (bb, bc, bl', bh, bt) = jE ab ac al ah at' bb bc bl' bh bt := rfl
      have hrow := keepA (o' := .cells #[.int .i64 bb, .int .i64 bc, .int .i64 bl', .string bh, .string bt] 24) hra
      obtain ⟨q0, q1, q2, q3, q4⟩ := box_at hrow
      have HRS := hide hrs
      have HRA := hide hra
      have HB := hide hB
      have HROW := hide hrow
      have hcells0 := keepA (o' := .cells #[.int .i64 bb, .int .i64 bc, .int .i64 bl', .string bh, .string bt] 24) hrs
      have HR0 := hide hcells0
      clear hcl hrow hcells0
      have nxt : Below w.heap.size w (wr.alloc (.cells #[.int .i64 bb, .int .i64 bc, .int .i64 bl', .string bh, .string bt] 24)) := hB.alloc hB.size _
      have HNX := hide nxt
      clear nxt hB hra hrs
      by_cases hje : jE ab ac al ah at' bb bc bl' bh bt = 0
      · have hjv : jV ab ac al ah at' bb bc bl' bh bt = .agg #[.int .i64 (ab + bb), .int .i64 (ac + bc + (seamT at' bh).1), .int .i64 (jL al bl' (seamT at' bh).2), .string (jH ah bh), .string (jT at' bt)] := by unfold jV; rw [if_pos hje]
        rw [hjv, hje] at kj
        have hbd := jE_size hje
        have hs2 : sumV (ab + bb, ac + bc + (seamT at' bh).1, jL al bl' (seamT at' bh).2, jH ah bh, jT at' bt) (xs.drop (k + 1)) = sumV zT xs := by
          rw [← hsum]
          show _ = if jE2 (ab, ac, al, ah, at') (bb, bc, bl', bh, bt) = 0 then _ else _
          rw [if_pos (hjs.trans hje)]
          rfl
        have KJ := hide kj
        have HS2 := hide hs2
        generalize ac + bc + (seamT at' bh).1 = C at *
        generalize jL al bl' (seamT at' bh).2 = L at *
        generalize jH ah bh = H at *
        generalize jT at' bt = T at *
        generalize ab + bb = S at *
        clear kj hs2 hsum hje hjv hjs hdr hx
        go_wp2_with (go_at_call 5; refine (KJ.out _).mono ?_; rintro e w1 ⟨rfl, hB1⟩; obtain ⟨⟨d0, d1, d2, d3, d4⟩, ⟨f0, f1, f2, f3, f4⟩, R, O, BB⟩ := chain5 (row_keep HROW.out hB1) (.int .i64 S) (.int .i64 C) (.int .i64 L) (.string H) (.string T); replace R := hide R; replace O := hide O; replace BB := hide BB)
        go_roundw
        case rel => exact ⟨k + 1, S, C, L, H, T, by go_num, by omega, hbd, HS2.out, (O.out _ (by omega)).trans (row_keep HR0.out hB1), R.out, BB.out _ _ (by omega) (bseq HNX.out hB1)⟩
        case measure => simp [intOf]; omega
      · have hjv : jV ab ac al ah at' bb bc bl' bh bt = (.agg #[.int .i64 0, .int .i64 0, .int .i64 0, .string ⟨#[]⟩, .string ⟨#[]⟩]) := by unfold jV; rw [if_neg hje]
        rw [hjv] at kj
        have hs2 : sumV zT xs = (zT, jE ab ac al ah at' bb bc bl' bh bt) := by
          rw [← hsum]
          show (if jE2 (ab, ac, al, ah, at') (bb, bc, bl', bh, bt) = 0 then _ else _) = _
          rw [if_neg (fun h => hje (hjs.symm.trans h)), hjs]
        have HS2 := hide hs2
        have KJ := hide kj
        generalize jE ab ac al ah at' bb bc bl' bh bt = E at *
        have hE : (E != 0) = true := by simp [hje]
        clear kj hs2 hsum hje hjv hjs hdr hx
        go_wp2_with (go_at_call 5; refine (KJ.out _).mono ?_; rintro e w1 ⟨rfl, hB1⟩; obtain ⟨⟨d0, d1, d2, d3, d4⟩, ⟨f0, f1, f2, f3, f4⟩, R, O, BB⟩ := chain5 (row_keep HROW.out hB1) (.int .i64 0) (.int .i64 0) (.int .i64 0) (.string ⟨#[]⟩) (.string ⟨#[]⟩); have hz2 := (O w.heap.size (by omega)).trans (row_keep HR0.out hB1); unfold set5 at hz2; obtain ⟨⟨e0, e1, e2, e3, e4⟩, ⟨g0, g1, g2, g3, g4⟩, R2, O2, BB2⟩ := chain5 hz2 (.int .i64 0) (.int .i64 0) (.int .i64 0) (.string ⟨#[]⟩) (.string ⟨#[]⟩); replace R := hide R; replace O := hide O; replace BB := hide BB; replace R2 := hide R2; replace O2 := hide O2; replace BB2 := hide BB2; clear hz2)
        (try simp only [Exit.inBlock, Exit.then])
        refine bodyPost_ret (results_row_tmp rfl _ _ w.heap.size _ _ _ _ rfl R2.out Try.underlying24 rfl (by kernel_rfl)) rfl ?_
        refine ⟨?_, BB2.out _ _ (Nat.le_refl _) (BB.out _ _ (by omega) (bseq HNX.out hB1))⟩
        rw [HS2.out]
        rfl
    · have hkk : xs.drop k = [] := List.drop_eq_nil_of_le (by omega)
      rw [hkk] at hsum
      obtain ⟨⟨d0, d1, d2, d3, d4⟩, ⟨f0, f1, f2, f3, f4⟩, R, _, BB⟩ := chain5 hrs (.int .i64 ab) (.int .i64 ac) (.int .i64 al) (.string ah) (.string at')
      replace R := hide R
      replace BB := hide BB
      obtain ⟨q0, q1, q2, q3, q4⟩ := box_at hra
      have HB := hide hB
      have HS := hide hsum
      have hge : (xs.length : Int) ≤ (k : Int) := by omega
      clear hB hrs hra hsum hkk hlt
      go_wp2_with (fail)
      (try simp only [Exit.inBlock, Exit.then])
      refine bodyPost_ret (results_row_tmp rfl _ _ w.heap.size _ _ _ _ rfl R.out Try.underlying24 rfl (by kernel_rfl)) rfl ?_
      refine ⟨?_, BB.out _ _ (Nat.le_refl _) HB.out⟩
      rw [← HS.out]
      rfl
end Go.Proofs.Ytojbclifafmllaa
