/- Package seek: what SeekPlaces asks of the pieces, of Find, Last and Match, in pure words. -/
import Derived.Test.YtodooppapciegaaGreatDoorURef2Joined
import Derived.Deep.QuietTactic
import Derived.BigQuiet
import Derived.OwnWalk
import Derived.WalkSmall
import Derived.Lib.OthersKept
import Derived.Test.YtodooppapciegaaGreatDoorUOrdM
import Derived.Test.YtodooppapciegaaGreatDoorXPcsM
import Derived.Test.YtodooppapciegaaGreatDoorXMatch
import Derived.Test.YtodooppapciegaaGreatDoorXSrchM
namespace Go.Proofs.YtodooppapciegaaGreatDoor
open Go.RowKit
set_option linter.unusedVariables false

/-- The runes of a text, as numbers. -/
def runesZ (l : List UInt8) : List Int := (Cs 0 l).map (fun e => (e.2.1 : Int))
theorem runesZ_len (l : List UInt8) : (runesZ l).length = (Cs 0 l).length := by unfold runesZ; simp
def R32 (z : Int) : Value := .int .i32 z
theorem Tryz.info32 : (Tryz.prog.info? 21).map (fun i => (i.zero, i.size, i.bytes)) = some (some (.int .i32 0), 1, 4) := by kernel_rfl

/-- What a row of runes of the call's own holds. -/
theorem slu_of_owns {W : World} {base : Nat} {v : Value} {zs : List Int} (h : W.ownsRow base 21 1 v zs.length (zs.map R32)) : ∃ a cap, v = .slice a zs.length cap ∧ SlU W a zs := by
  rcases h.2 with ⟨rfl, h0⟩ | ⟨g, cap, cur, rfl, _, hg, hn, _, hs, hc⟩
  · exact ⟨none, 0, by rw [h0], .inl (List.eq_nil_of_length_eq_zero h0)⟩
  · refine ⟨_, cap, rfl, .inr ⟨g, 0, rfl, (Array.getElem?_eq_some_iff.1 hg).1, fun i x hx => ?_⟩⟩
    have h1 : (zs.map R32)[i]? = some (.int .i32 x) := by rw [List.getElem?_map, hx]; rfl
    have h2 : i < zs.length := (List.getElem?_eq_some_iff.1 hx).1
    rw [← hc, List.getElem?_take, if_pos (by omega)] at h1
    simp only [Nat.zero_add, World.cell?, hg]
    simpa using h1
theorem ownsRow_below {W W' : World} {base : Nat} {e : TypeId} {size : Nat} {v : Value} {k : Nat} {xs : List Value} (h : W.ownsRow base e size v k xs) (hb : Below W.heap.size W W') : W'.ownsRow base e size v k xs := by
  refine ⟨h.1, ?_⟩
  rcases h.2 with h2 | ⟨g, cap, cur, hv, hg, hh, r⟩
  · exact .inl h2
  · exact .inr ⟨g, cap, cur, hv, hg, (hb.block g (Array.getElem?_eq_some_iff.1 hh).1).trans hh, r⟩
theorem ownsRow_iter {w : World} {base : Nat} {e : TypeId} {size : Nat} {v : Value} {n : Nat} {xs : List Value} (h : w.ownsRow base e size v n xs) {k : Nat} {s : ByteArray} {p : Nat} (hk : w.heap[k]? = some (.stringIter s p)) (p' : Nat) : (w.iterAt k s p').ownsRow base e size v n xs := by
  obtain ⟨h1, h2⟩ := h
  refine ⟨h1, ?_⟩
  rcases h2 with h2 | ⟨g, cap, cur, a, b, c, d⟩
  · exact .inl h2
  · refine .inr ⟨g, cap, cur, a, b, ?_, d⟩
    rw [Lib.iterAt_other]
    · exact c
    · intro e
      rw [e, hk] at c
      cases c

theorem next_at' {P : Program} (w : World) (k : Nat) (s : ByteArray) (pos : Nat) (ty : TypeId) (hk : w.heap[k]? = some (.stringIter s pos)) (h : pos < s.size) :
    (Instr.next (.pointer (some ⟨k, 0, none⟩)) true ty).run P w = .ok (.tuple #[.bool true, .int .i64 pos, .int .i32 (rune ((bl s).drop pos) : Nat)]) (w.iterAt k s (pos + cw ((bl s).drop pos))) := by
  rw [Lib.run_next_any_at w k s pos ty hk h, decode_eq s pos h]; rfl

end Go.Proofs.YtodooppapciegaaGreatDoor
namespace Go.Proofs.YtodooppapciegaaGreatDoor
open Go.RowKit
set_option linter.unusedVariables false

/-- A character's four cells. -/
def rightE (e : Nat × Nat × Nat) : Bool := decide (1 < e.2.2) || decide (e.2.1 ≠ 65533)
def cell4 (e : Nat × Nat × Nat) : List Value := [.int .i64 (e.1 : Int), .int .i32 (e.2.1 : Int), .int .i64 (e.2.2 : Int), .bool (rightE e)]
def cells4 (l : List (Nat × Nat × Nat)) : List Value := l.flatMap cell4
theorem cells4_len (l : List (Nat × Nat × Nat)) : (cells4 l).length = l.length * 4 := by
  induction l with
  | nil => rfl
  | cons e l ih => unfold cells4 at *; rw [List.flatMap_cons, List.length_append, ih]; simp [cell4]; omega
theorem cells4_snoc (l : List (Nat × Nat × Nat)) (e : Nat × Nat × Nat) : cells4 (l ++ [e]) = cells4 l ++ cell4 e := by unfold cells4; simp
theorem cells4_at (l : List (Nat × Nat × Nat)) : ∀ (i : Nat) (e : Nat × Nat × Nat), l[i]? = some e → ∀ j, j < 4 → (cells4 l)[4 * i + j]? = (cell4 e)[j]? := by
  induction l with
  | nil => intro i e h; simp at h
  | cons x l ih =>
    intro i e h j hj
    have hx : cells4 (x :: l) = cell4 x ++ cells4 l := by unfold cells4; rw [List.flatMap_cons]
    rw [hx]
    cases i with
    | zero =>
      simp at h
      subst h
      rw [List.getElem?_append_left (by simp [cell4]; omega)]
      simp
    | succ i =>
      simp at h
      rw [List.getElem?_append_right (by simp [cell4]; omega), ← ih i e h j hj]
      congr 1
      simp [cell4]
      omega

/-- What a slice of characters holds. -/
def SlC (w : World) (a : Option Addr) (cs : List (Nat × Nat × Nat)) : Prop :=
  cs = [] ∨ ∃ b, a = some ⟨b, 0, none⟩ ∧ b < w.heap.size ∧ ∀ (i : Nat) (e : Nat × Nat × Nat), cs[i]? = some e →
    w.cell? ⟨b, i * 4, none⟩ = some (.int .i64 (e.1 : Int)) ∧ w.cell? ⟨b, i * 4 + 1, none⟩ = some (.int .i32 (e.2.1 : Int)) ∧ w.cell? ⟨b, i * 4 + 2, none⟩ = some (.int .i64 (e.2.2 : Int)) ∧ w.cell? ⟨b, i * 4 + 3, none⟩ = some (.bool (rightE e))
theorem SlC.below {w w' : World} {a : Option Addr} {cs : List (Nat × Nat × Nat)} (h : SlC w a cs) (hb : Below w.heap.size w w') : SlC w' a cs := by
  rcases h with h | ⟨b, ha, hl, hs⟩
  · exact .inl h
  · refine .inr ⟨b, ha, Nat.lt_of_lt_of_le hl hb.size, fun i e he => ?_⟩
    obtain ⟨h1, h2, h3, h4⟩ := hs i e he
    exact ⟨(hb.cell (p := ⟨b, i * 4, none⟩) hl).trans h1, (hb.cell (p := ⟨b, i * 4 + 1, none⟩) hl).trans h2, (hb.cell (p := ⟨b, i * 4 + 2, none⟩) hl).trans h3, (hb.cell (p := ⟨b, i * 4 + 3, none⟩) hl).trans h4⟩
theorem slc_of_owns {W : World} {base : Nat} {v : Value} {cs : List (Nat × Nat × Nat)} (h : W.ownsRow base 62 4 v cs.length (cells4 cs)) : ∃ a cap, v = .slice a cs.length cap ∧ SlC W a cs := by
  rcases h.2 with ⟨rfl, h0⟩ | ⟨g, cap, cur, rfl, _, hg, hn, _, hs, hc⟩
  · exact ⟨none, 0, by rw [h0], .inl (List.eq_nil_of_length_eq_zero h0)⟩
  · refine ⟨_, cap, rfl, .inr ⟨g, rfl, (Array.getElem?_eq_some_iff.1 hg).1, fun i e he => ?_⟩⟩
    have hi : i < cs.length := (List.getElem?_eq_some_iff.1 he).1
    have key : ∀ j, j < 4 → W.cell? ⟨g, i * 4 + j, none⟩ = (cell4 e)[j]? := by
      intro j hj
      have h1 := cells4_at cs i e he j hj
      rw [← hc, List.getElem?_take, if_pos (by omega)] at h1
      simp only [World.cell?, hg]
      rw [show i * 4 + j = 4 * i + j by omega]
      simpa using h1
    exact ⟨key 0 (by omega), key 1 (by omega), key 2 (by omega), key 3 (by omega)⟩

theorem Tryz.infoC : (Tryz.prog.info? 62).map (fun i => (i.zero, i.size, i.bytes)) = some (some (.agg #[.int .i64 0, .int .i32 0, .int .i64 0, .bool false]), 4, 32) := by kernel_rfl
theorem cell_four_new (w : World) (a b c d : Value) (t : TypeId) : ∀ j u, [a, b, c, d][j]? = some u → (w.alloc (.cells #[a, b, c, d] t)).cell? ((⟨w.heap.size, 0, none⟩ : Addr).add j) = some u := by
  intro j u hj
  match j, hj with
  | 0, hj => simp at hj; subst hj; simp [Addr.add]
  | 1, hj => simp at hj; subst hj; simp [Addr.add]
  | 2, hj => simp at hj; subst hj; simp [Addr.add]
  | 3, hj => simp at hj; subst hj; simp [Addr.add]
  | j + 4, hj => simp at hj

theorem rightE_at (l : List UInt8) (p : Nat) : rightE (p, rune l, cw l) = decide (W l ≠ 0) := by
  rw [← right_eq]
  unfold rightE
  have := cw_pos l
  rw [Bool.eq_iff_iff]
  simp only [Bool.or_eq_true, Bool.and_eq_true, decide_eq_true_eq]
  constructor
  · rintro (h | h)
    · exact .inl h
    · by_cases h1 : cw l = 1
      · exact .inr ⟨h1, h⟩
      · exact .inl (by omega)
  · rintro (h | h)
    · exact .inl h
    · exact .inr h.2

set_option maxRecDepth 100000 in
set_option maxHeartbeats 1000000 in
theorem chars_any (s : ByteArray) (w : World) (hs : s.size ≤ 1048576) :
    Calls Tryz.prog 22 #[.string s] w fun e w' => ∃ a cap, e = .returned (.slice a (Cs 0 (bl s)).length cap) ∧ SlC w' a (Cs 0 (bl s)) ∧ Below w.heap.size w w' := by
  obtain ⟨i0, hi, hz0, hz1, hz2⟩ := info_parts Tryz.infoC
  go_enter Tryz.func22, Tryz.ntmps22
  go_wp2
  go_loopw [3, 4] (fun v q wr => ∃ pos k : Nat, q = .int .i64 pos ∧ k ≤ pos ∧ pos ≤ s.size ∧ Inv (bl s) pos k ∧ wr.ownsRow w.heap.size 62 4 v k (cells4 ((Cs 0 (bl s)).take k)) ∧ Below w.heap.size w wr) (fun _ q _ => s.size - (intOf q).toNat)
  case atStart => exact ⟨0, 0, rfl, by omega, by omega, Inv.start _, World.ownsRow_nil _ _ _ _, Below.refl _ _⟩
  case round =>
    obtain ⟨pos, k, rfl, hkp, hps, hI, hown, hB⟩ := hrel
    by_cases hlt : pos < s.size
    · have hlt' : (pos : Int) < (s.size : Int) := by omega
      have hfv := firstV_ne (bl_drop_ne hlt)
      have kf := fun w => refFirst_any (s.extract pos s.size) w (by rw [ByteArray.size_extract]; omega)
      rw [bl_from, hfv, ← rightE_at _ pos] at kf
      have hh := hI.here (by rw [bl_len]; exact hlt)
      have hst := hI.step (by rw [bl_len]; exact hlt)
      have h1 := cw_pos ((bl s).drop pos)
      have h2 := cw_len _ (bl_drop_ne hlt)
      rw [List.length_drop, bl_len] at h2
      have h4 := cw_le4 ((bl s).drop pos)
      generalize hr : rune ((bl s).drop pos) = r at *
      generalize hc : cw ((bl s).drop pos) = c at *
      generalize hg : rightE (pos, r, c) = g at *
      have KF := hide kf
      have HH := hide hh
      have HST := hide hst
      have HI := hide hI
      have HB := hide hB
      have HG := hide hg
      clear kf hh hst hI hB hfv hr hc hg
      go_wp2_with (first | (go_at_call 46; refine (KF.out _).mono ?_; rintro e w1 ⟨rfl, hB1⟩) | (at_builtin; refine wpList_append_own _ rfl _ _ 59 rfl w.heap.size 62 i0 (.agg #[.int .i64 0, .int .i32 0, .int .i64 0, .bool false]) 4 32 Tryz.underlying59 hi hz0 hz1 hz2 rfl (by omega) _ _ _ rfl ((ownsRow_below hown hB1).alloc _) ⟨w1.heap.size, 0, none⟩ 1 1 [.int .i64 (pos : Int), .int .i32 (r : Int), .int .i64 (c : Int), .bool g] rfl rfl (cell_four_new _ _ _ _ _ _) (by simp [Value.oneCell']) (by unfold maxLen; omega) (by omega) (by have := HB.out.size; have := hB1.size; simp; omega) ?_; intro v' w2 hown' hgrow _))
      go_roundw
      case rel =>
        refine ⟨pos + c, k + 1, by go_num, by omega, by omega, HST.out, ?_, ?_⟩
        · rw [List.take_add_one, HH.out]
          simp only [Option.toList_some]
          rw [cells4_snoc]
          have e : cell4 (pos, r, c) = [.int .i64 (pos : Int), .int .i32 (r : Int), .int .i64 (c : Int), .bool g] := by unfold cell4; rw [HG.out]
          rw [e]
          exact hown'
        · exact ((bseq HB.out hB1).alloc (bseq HB.out hB1).size _).grown hgrow (by have := HB.out.size; have := hB1.size; simp; omega) (fun j e => (hown.lt j e).1)
      case measure => simp [intOf]; omega
    · have hpp : (s.size : Int) ≤ (pos : Int) := by omega
      have hk := hI.fin (by rw [bl_len]; omega)
      have HK := hide hk
      have HB := hide hB
      have HO := hide hown
      clear hk hB hI hown
      go_wp2
      go_ret
      have h1 := HO.out
      rw [HK.out, List.take_length] at h1
      obtain ⟨a, cap, rfl, hsl⟩ := slc_of_owns h1
      exact ⟨a, cap, rfl, hsl, HB.out⟩

/-- The number of the last one that begins at a place or ahead of it. -/
def lastLe (L : List (Nat × Nat × Nat)) (i : Int) (m : Nat) : Nat := match m with
  | 0 => 0
  | m + 1 => match L[m]? with | some e => if (e.1 : Int) ≤ i then m else lastLe L i m | none => lastLe L i m
theorem lastLe_of (l : List UInt8) (i : Nat) (hi : i < l.length) : (lastLe (Cs 0 l) i (Cs 0 l).length : Int) = (ofN l i : Int) - 1 := by
  obtain ⟨j, ⟨e, he, rfl⟩, h1, h2⟩ := St_cover l i hi
  obtain ⟨k, hk⟩ := List.getElem?_of_mem he
  have hl := Cs_lt hk
  rw [← hl.2.2.2.2.2] at h2
  rw [ofN_at hk h1 h2]
  have hkl := (List.getElem?_eq_some_iff.1 hk).1
  have key : ∀ m, k < m → m ≤ (Cs 0 l).length → lastLe (Cs 0 l) i m = k := by
    intro m
    induction m with
    | zero => intro h; omega
    | succ m ih =>
      intro h hm
      obtain ⟨f, hf⟩ : ∃ f, (Cs 0 l)[m]? = some f := ⟨_, List.getElem?_eq_getElem (by omega)⟩
      unfold lastLe
      rw [hf]
      by_cases hmk : m = k
      · subst hmk
        rw [hk] at hf
        cases hf
        show (if (e.1 : Int) ≤ (i : Int) then m else _) = m
        rw [if_pos (by omega)]
      · have := Cs_two hk hf (by omega)
        show (if (f.1 : Int) ≤ (i : Int) then m else _) = k
        rw [if_neg (by omega)]
        exact ih (by omega) (by omega)
  rw [key _ hkl (Nat.le_refl _)]
  omega

set_option maxHeartbeats 1000000 in
theorem refBegins_any (s : ByteArray) (n : Int) (w : World) (hs : s.size ≤ 1048576) :
    Calls Tryz.prog 10 #[.string s, .int .i64 n] w fun e w' => e = .returned (.bool (beginsV (bl s) n)) ∧ Below w.heap.size w w' := by
  have kc := fun w => chars_any s w hs
  have hcl := Cs_len_le (bl s)
  rw [bl_len] at hcl
  have hv : beginsV (bl s) n = decide ((∃ e ∈ Cs 0 (bl s), (e.1 : Int) = n) ∨ n = (s.size : Int)) := by
    by_cases hb : n < 0 ∨ (s.size : Int) < n
    · rw [(order_out (bl s) n (by rw [bl_len]; exact hb)).2]
      symm
      apply decide_eq_false
      rintro (⟨e, he, h⟩ | h)
      · have := Cs_mem (bl s) 0 e he
        rw [bl_len] at this
        omega
      · omega
    · obtain ⟨k, rfl⟩ : ∃ k : Nat, n = (k : Int) := ⟨n.toNat, by omega⟩
      unfold beginsV
      rw [bl_len, decide_eq_true (by omega : (0 : Int) ≤ (k : Int)), decide_eq_true (by omega : (k : Int) ≤ (s.size : Int)), Int.toNat_natCast]
      rw [Bool.eq_iff_iff]
      simp only [Bool.true_and, Bool.or_eq_true, decide_eq_true_eq]
      constructor
      · rintro (h | h)
        · exact .inr h
        · by_cases hk : k = s.size
          · exact .inr (by omega)
          · obtain ⟨e, he, hh⟩ := (begins_iff (bl s) k (by rw [bl_len]; omega)).1 h
            exact .inl ⟨e, he, by omega⟩
      · rintro (⟨e, he, hh⟩ | h)
        · have hm := Cs_mem (bl s) 0 e he
          rw [bl_len] at hm
          exact .inr ((begins_iff (bl s) k (by rw [bl_len]; omega)).2 ⟨e, he, by omega⟩)
        · exact .inl h
  have hR : beginsV (bl s) n = true ↔ ((∃ e ∈ Cs 0 (bl s), (e.1 : Int) = n) ∨ n = (s.size : Int)) := by rw [hv, decide_eq_true_eq]
  clear hv
  generalize beginsV (bl s) n = R at *
  generalize Cs 0 (bl s) = L at *
  generalize hm : L.length = m at *
  have KC := hide kc
  have HM := hide hm
  have HR := hide hR
  clear kc hm hR
  go_enter Tryz.func10, Tryz.ntmps10
  go_wp2_with (go_at_call 22; refine (KC.out _).mono ?_; rintro e w1 ⟨a, cap, rfl, hsl, hB⟩)
  have HSL := hide hsl
  have HB := hide hB
  clear hsl hB
  go_loop [6] (fun q => ∃ k : Nat, k ≤ m ∧ q = .int .i64 k ∧ (∀ (j : Nat) (e : Nat × Nat × Nat), j < k → L[j]? = some e → (e.1 : Int) ≠ n)) (fun q => m - (intOf q).toNat)
  case atStart => exact ⟨0, by omega, rfl, fun j e h => by omega⟩
  case round =>
    obtain ⟨k, hk, rfl, hj⟩ := hrel
    have HJ := hide hj
    clear hj
    by_cases hlt : k < m
    · have hlt' : (k : Int) < (m : Int) := by omega
      obtain ⟨c, hc⟩ : ∃ c, L[k]? = some c := ⟨_, List.getElem?_eq_getElem (by rw [HM.out]; exact hlt)⟩
      obtain ⟨b, rfl, hcell⟩ : ∃ b, a = some ⟨b, 0, none⟩ ∧ w1.cell? ⟨b, k * 4, none⟩ = some (.int .i64 (c.1 : Int)) := by
        rcases HSL.out with h | ⟨b, ha, _, hh⟩
        · rw [h] at hc; simp at hc
        · exact ⟨b, ha, (hh k c hc).1⟩
      have HC := hide hc
      clear hc
      by_cases hle : (c.1 : Int) = n
      · have hle' : ((c.1 : Int) == n) = true := by simp [hle]
        have HLE := hide hle
        clear hle
        go_wp2
        go_ret
        exact ⟨ret_bool (Eq.symm (HR.out.2 (.inl ⟨c, List.mem_of_getElem? HC.out, HLE.out⟩))), HB.out⟩
      · have hle' : ((c.1 : Int) == n) = false := by simp [hle]
        have HLE := hide hle
        clear hle
        go_wp2
        go_round
        case rel =>
          refine ⟨k + 1, by omega, by go_num, fun j e h1 h2 => ?_⟩
          by_cases hjk : j < k
          · exact HJ.out j e hjk h2
          · have : j = k := by omega
            subst this
            rw [HC.out] at h2
            cases h2
            exact HLE.out
        case measure => simp [intOf]; omega
    · have hkm : k = m := by omega
      subst hkm
      go_wp2
      go_ret
      refine ⟨ret_bool ?_, HB.out⟩
      rw [Bool.eq_iff_iff, HR.out, beq_iff_eq]
      constructor
      · intro h; exact .inr h
      · rintro (⟨e, he, h⟩ | h)
        · obtain ⟨j, hj⟩ := List.getElem?_of_mem he
          exact absurd h (HJ.out j e (by have := (List.getElem?_eq_some_iff.1 hj).1; rw [HM.out] at this; exact this) hj)
        · exact h
end Go.Proofs.YtodooppapciegaaGreatDoor
namespace Go.Proofs.YtodooppapciegaaGreatDoor
open Go.RowKit Go.Shelf
set_option linter.unusedVariables false
set_option linter.unusedSimpArgs false

/-- Is a character of the part's kind? -/
def fitE (b : Bt) (e : Nat × Nat × Nat) : Bool := if b.2.1 = true then (!rightE e || !endK (e.2.1 : Int)) else (rightE e && decide ((e.2.1 : Int) = b.1))
theorem rightE_W (a : Nat) (u : List UInt8) : rightE (a, rune u, cw u) = decide (W u ≠ 0) := by
  unfold rightE rune cw
  by_cases h0 : W u = 0
  · rw [h0]
    simp [num]
  · rw [if_neg h0]
    by_cases h1 : W u = 1
    · have h2 : by' u 0 < 128 := wd_1.1 h1
      rw [h1]
      have h3 : num 1 (by' u 0) (by' u 1) (by' u 2) (by' u 3) = by' u 0 := rfl
      simp only [h3]
      rw [decide_eq_true (by omega : by' u 0 ≠ 65533)]
      simp
    · rw [decide_eq_true (by omega : 1 < W u), Bool.true_or]
      exact (decide_eq_true h0).symm
theorem fitE_eq (b : Bt) (a : Nat) (u : List UInt8) (hu : u ≠ []) : fitE b (a, rune u, cw u) = fitP b (ch1 u) := by
  unfold fitE fitP ch1
  rw [if_neg hu, rightE_W]
  by_cases h0 : W u = 0
  · rw [if_pos h0, decide_eq_false (by simpa using h0)]
    split
    · simp [endP]
    · simp [oneP]
  · rw [if_neg h0, decide_eq_true h0]
    split
    · simp [endP]
    · simp [oneP]
/-- The rows, by what fits. -/
def rowsE (n : Nat) : List (Nat × (Nat → Bool)) → Nat → Bool
  | [], k => decide (k = n)
  | b :: bs, k => nxR b.1 b.2 (rowsE n bs) (n - k) k
theorem rowsE_R (ch : Nat → Ch) (n : Nat) : ∀ (bs : List (Nat × (Ch → Bool))) (k : Nat), rowsR ch n bs k = rowsE n (bs.map fun b => (b.1, fun m => b.2 (ch m))) k
  | [], k => rfl
  | b :: bs, k => by
    rw [List.map_cons, rowsR, rowsE]
    have : rowsR ch n bs = rowsE n (bs.map fun b => (b.1, fun m => b.2 (ch m))) := funext fun k => rowsE_R ch n bs k
    rw [this]
theorem nxR_congr {how : Nat} {ft ft' row row' : Nat → Bool} : ∀ (d k : Nat), (∀ m, k ≤ m → m < k + d → ft m = ft' m) → (∀ m, k ≤ m → m ≤ k + d → row m = row' m) → nxR how ft row d k = nxR how ft' row' d k
  | 0, k, _, hr => by rw [nxR, nxR, hr k (Nat.le_refl _) (Nat.le_refl _)]
  | d + 1, k, hf, hr => by
    rw [nxR, nxR, hf k (Nat.le_refl _) (by omega), hr k (Nat.le_refl _) (by omega), hr (k + 1) (by omega) (by omega), nxR_congr d (k + 1) (fun m h1 h2 => hf m (by omega) (by omega)) (fun m h1 h2 => hr m (by omega) (by omega))]
theorem rowsE_congr {n : Nat} {α : Type} (h : α → Nat) (f g : α → Nat → Bool) : ∀ (bs : List α) (k : Nat), k ≤ n → (∀ b ∈ bs, ∀ m, m < n → f b m = g b m) → rowsE n (bs.map fun b => (h b, f b)) k = rowsE n (bs.map fun b => (h b, g b)) k
  | [], k, _, _ => rfl
  | b :: bs, k, hk, hb => by
    rw [List.map_cons, List.map_cons, rowsE, rowsE]
    exact nxR_congr (n - k) k (fun m h1 h2 => hb b (List.mem_cons_self ..) m (by omega)) (fun m h1 h2 => rowsE_congr h f g bs m (by omega) (fun c hc => hb c (List.mem_cons_of_mem _ hc)))
/-- Can the parts be found one behind the other, from the i-th character up to the j-th place? -/
def goR (bs : List Bt) (cs : List (Nat × Nat × Nat)) (i n : Nat) : Nat → Bool := rowsE n (bs.map fun b => (b.2.2, fun m => fitE b (cs.getD (i + m) (0, 0, 0))))
def goV (bs : List Bt) (cs : List (Nat × Nat × Nat)) (i j : Nat) : Bool := goR bs cs i (j - i) 0
theorem psI_shift (l : List UInt8) (a : Nat) : ∀ m, psI l (psI l 0 a) m = psI l 0 (a + m)
  | 0 => rfl
  | m + 1 => by
    have ih := psI_shift l a m
    have h1 : psI l (psI l 0 a) (m + 1) = psI l (psI l 0 a) m + cw1 (l.drop (psI l (psI l 0 a) m)) := rfl
    have h2 : psI l 0 (a + m + 1) = psI l 0 (a + m) + cw1 (l.drop (psI l 0 (a + m))) := rfl
    rw [h1, ih, ← Nat.add_assoc, h2]
/-- The characters of a text stand where a search comes by. -/
theorem chars_ps (l : List UInt8) : ∀ (k a i : Nat), l.length - a ≤ k → a ≤ l.length → psI l 0 i = a →
    (∀ m, m < (Cs a (l.drop a)).length → (Cs a (l.drop a))[m]? = some (psI l 0 (i + m), rune (l.drop (psI l 0 (i + m))), cw (l.drop (psI l 0 (i + m)))) ∧ wdI l 0 (i + m) ≠ 0) ∧ psI l 0 (i + (Cs a (l.drop a)).length) = l.length
  | k, a, i, hk, ha, hi => by
    by_cases e : l.drop a = []
    · rw [e, Cs_nil]
      have := List.drop_eq_nil_iff.1 e
      exact ⟨fun m hm => absurd hm (Nat.not_lt_zero _), by show psI l 0 i = l.length; omega⟩
    · have hl := cw_len _ e
      have hp := cw_pos (l.drop a)
      rw [List.length_drop] at hl
      match k, hk with
      | 0, hk => exact absurd (List.drop_eq_nil_of_le (by omega)) e
      | k + 1, hk =>
        have h1 : psI l 0 (i + 1) = psI l 0 i + cw1 (l.drop (psI l 0 i)) := rfl
        have h2 : psI l 0 (i + 1) = a + cw (l.drop a) := by rw [h1, hi]; unfold cw1; rw [if_neg e]
        obtain ⟨ih1, ih2⟩ := chars_ps l k (a + cw (l.drop a)) (i + 1) (by omega) (by omega) h2
        rw [Cs_cons a _ e, List.drop_drop]
        refine ⟨fun m hm => ?_, ?_⟩
        · match m, hm with
          | 0, _ =>
            rw [Nat.add_zero, hi]
            refine ⟨rfl, ?_⟩
            unfold wdI
            rw [hi]
            unfold cw1
            rw [if_neg e]
            omega
          | m + 1, hm =>
            rw [List.getElem?_cons_succ, show i + (m + 1) = i + 1 + m by omega]
            exact ih1 m (by simpa using hm)
        · rw [List.length_cons, show i + ((Cs (a + cw (l.drop a)) (l.drop (a + cw (l.drop a)))).length + 1) = i + 1 + (Cs (a + cw (l.drop a)) (l.drop (a + cw (l.drop a)))).length by omega]
          exact ih2
theorem cs_ps (l : List UInt8) : (∀ m, m < (Cs 0 l).length → (Cs 0 l)[m]? = some (psI l 0 m, rune (l.drop (psI l 0 m)), cw (l.drop (psI l 0 m))) ∧ wdI l 0 m ≠ 0) ∧ psI l 0 (Cs 0 l).length = l.length := by
  have := chars_ps l l.length 0 0 (by omega) (Nat.zero_le _) rfl
  rw [List.drop_zero] at this
  simpa using this
theorem nextB_spec (l : List UInt8) : ∀ (k p : Nat), p + k = l.length + 1 → p ≤ l.length → beginsV l (nextB l k p : Int) = true ∧ p ≤ nextB l k p ∧ nextB l k p ≤ l.length ∧ ∀ q, p ≤ q → q < nextB l k p → beginsV l (q : Int) = false
  | 0, p, h, hp => by omega
  | k + 1, p, h, hp => by
    rw [nextB]
    split
    · rename_i hb
      exact ⟨hb, Nat.le_refl _, hp, fun q h1 h2 => by omega⟩
    · rename_i hb
      have hne : p ≠ l.length := fun e => hb (by rw [e]; exact begins_fin l)
      obtain ⟨a, b, c, d⟩ := nextB_spec l k (p + 1) (by omega) (by omega)
      refine ⟨a, by omega, c, fun q h1 h2 => ?_⟩
      by_cases e : q = p
      · subst e; simpa using hb
      · exact d q (by omega) h2
section
variable {l : List UInt8} {bs : List Bt}
theorem pl_lt {i j : Nat} (hij : i < j) (hj : j ≤ (Cs 0 l).length) : psI l 0 i < psI l 0 j := psI_lt j hij (fun m hm => ((cs_ps l).1 m (by omega)).2)
theorem pl_le {i : Nat} (hi : i ≤ (Cs 0 l).length) : psI l 0 i ≤ l.length := psI_len (Nat.zero_le _) i
theorem pl_begins {i : Nat} (hi : i ≤ (Cs 0 l).length) : beginsV l (psI l 0 i : Int) = true := by
  rw [begins_bg (pl_le hi)]
  by_cases e : i = (Cs 0 l).length
  · rw [e, (cs_ps l).2]; exact .inl rfl
  · have := ((cs_ps l).1 i (by omega)).1
    exact .inr ⟨_, List.mem_of_getElem? this, rfl⟩
/-- From which character on places are not below a number: that at which a search up to the end begins. -/
theorem pl_from (p : Int) (hp : p ≤ l.length) : ∃ i0, i0 ≤ (Cs 0 l).length ∧ psI l 0 i0 = nextB l (l.length + 1 - p.toNat) p.toNat ∧ ∀ i, i ≤ (Cs 0 l).length → (p ≤ (psI l 0 i : Int) ↔ i0 ≤ i) := by
  obtain ⟨a, b, c, d⟩ := nextB_spec l (l.length + 1 - p.toNat) p.toNat (by omega) (by omega)
  have hbg := (begins_bg c).1 a
  obtain ⟨i0, h1, h2⟩ : ∃ i0, i0 ≤ (Cs 0 l).length ∧ psI l 0 i0 = nextB l (l.length + 1 - p.toNat) p.toNat := by
    rcases hbg with e | ⟨e, he, hh⟩
    · exact ⟨_, Nat.le_refl _, by rw [(cs_ps l).2, e]⟩
    · obtain ⟨m, hm⟩ := List.getElem?_of_mem he
      have hml := (List.getElem?_eq_some_iff.1 hm).1
      have := ((cs_ps l).1 m hml).1
      rw [hm] at this
      have k := Option.some.inj this
      exact ⟨m, by omega, by rw [← hh, k]⟩
  refine ⟨i0, h1, h2, fun i hi => ⟨fun h => ?_, fun h => ?_⟩⟩
  · rcases Nat.lt_or_ge i i0 with g | g
    · have k1 := pl_lt (l := l) g h1
      have k2 := d (psI l 0 i) (by omega) (by omega)
      rw [pl_begins hi] at k2
      exact absurd k2 (by simp)
    · exact g
  · have : psI l 0 i0 ≤ psI l 0 i := by
      by_cases e : i0 = i
      · rw [e]; exact Nat.le_refl _
      · exact Nat.le_of_lt (pl_lt (by omega) hi)
    omega
theorem find_rows (p : Int) (hp : p ≤ l.length) (i0 : Nat) (h0 : i0 ≤ (Cs 0 l).length) (h1 : psI l 0 i0 = nextB l (l.length + 1 - p.toNat) p.toNat) :
    (∀ i j, i0 ≤ i → i ≤ j → j ≤ (Cs 0 l).length → goV bs (Cs 0 l) i j = true → (∀ i' j', i0 ≤ i' → i' < i → i' ≤ j' → j' ≤ (Cs 0 l).length → goV bs (Cs 0 l) i' j' = false) → (∀ j', j < j' → j' ≤ (Cs 0 l).length → goV bs (Cs 0 l) i j' = false) →
      findV ((bs.map kB).flatMap itsB) l p = (psI l 0 i, psI l 0 j, true)) ∧
    ((∀ i j, i0 ≤ i → i ≤ j → j ≤ (Cs 0 l).length → goV bs (Cs 0 l) i j = false) → findV ((bs.map kB).flatMap itsB) l p = (0, 0, false)) := by
  obtain ⟨c1, c2⟩ := cs_ps l
  have hsh := psI_shift l i0
  have hfl : psI l 0 i0 ≤ l.length := pl_le h0
  have hN : wdI l (psI l 0 i0) ((Cs 0 l).length - i0) = 0 := by
    unfold wdI
    rw [hsh, show i0 + ((Cs 0 l).length - i0) = (Cs 0 l).length by omega, c2, List.drop_length]
    rfl
  have hv : ∀ m, m < (Cs 0 l).length - i0 → wdI l (psI l 0 i0) m ≠ 0 := fun m hm => by
    have := (c1 (i0 + m) (by omega)).2
    unfold wdI at this ⊢
    rwa [hsh]
  have hlead : ∀ i j, i ≤ j → j ≤ (Cs 0 l).length - i0 → goV bs (Cs 0 l) (i0 + i) (i0 + j) = rowsR (fun m => ahI l (psI l 0 i0) (i + m + 1)) (j - i) (bs.map kB) 0 := fun i j hij hj => by
    unfold goV goR
    rw [rowsE_R, List.map_map, show i0 + j - (i0 + i) = j - i by omega]
    refine rowsE_congr (fun b => b.2.2) _ _ bs 0 (Nat.zero_le _) (fun b _ m hm => ?_)
    have hk := (c1 (i0 + i + m) (by omega)).1
    have hne : l.drop (psI l 0 (i0 + i + m)) ≠ [] := fun e => by
      have := (c1 (i0 + i + m) (by omega)).2
      unfold wdI cw1 at this
      rw [if_pos e] at this
      exact this rfl
    have hg : (Cs 0 l).getD (i0 + i + m) (0, 0, 0) = (psI l 0 (i0 + i + m), rune (l.drop (psI l 0 (i0 + i + m))), cw (l.drop (psI l 0 (i0 + i + m)))) := by simp [List.getD, hk]
    rw [hg, fitE_eq b _ _ hne]
    have ha : ahI l (psI l 0 i0) (i + m + 1) = ch1 (l.drop (psI l (psI l 0 i0) (i + m))) := rfl
    show fitP b _ = fitP b (ahI l (psI l 0 i0) (i + m + 1))
    rw [ha, hsh, Nat.add_assoc]
  have hpr := piece_rows (bs := bs.map kB) (N := (Cs 0 l).length - i0) hfl hN hv (fun i j => goV bs (Cs 0 l) (i0 + i) (i0 + j)) hlead
  rw [h1] at hpr
  have hlt : ¬ (l.length : Int) < p := by omega
  refine ⟨fun i j hi hij hj hg hfirst hlast => ?_, fun hno => ?_⟩
  · obtain ⟨g1, g2, g3⟩ := hpr.1 (i - i0) (j - i0) (by omega) (by omega) (by rw [show i0 + (i - i0) = i by omega, show i0 + (j - i0) = j by omega]; exact hg)
      (fun i' j' k1 k2 k3 => hfirst (i0 + i') (i0 + j') (by omega) (by omega) (by omega) (by omega))
      (fun j' k1 k2 => by rw [show i0 + (i - i0) = i by omega]; exact hlast (i0 + j') (by omega) (by omega))
    unfold findV
    rw [if_neg hlt, if_pos g1, g2, g3, ← h1, hsh, hsh, show i0 + (i - i0) = i by omega, show i0 + (j - i0) = j by omega]
  · have g1 := hpr.2 (fun i j k1 k2 => hno (i0 + i) (i0 + j) (by omega) (by omega) (by omega))
    unfold findV
    rw [if_neg hlt, if_neg (by rw [g1]; simp)]
/-- What Find finds of plain parts. -/
theorem find_yes (p : Int) (i j : Nat) (hij : i ≤ j) (hj : j ≤ (Cs 0 l).length) (hp : p ≤ (psI l 0 i : Int)) (hg : goV bs (Cs 0 l) i j = true)
    (hfirst : ∀ i' j', i' < i → p ≤ (psI l 0 i' : Int) → i' ≤ j' → j' ≤ (Cs 0 l).length → goV bs (Cs 0 l) i' j' = false) (hlast : ∀ j', j < j' → j' ≤ (Cs 0 l).length → goV bs (Cs 0 l) i j' = false) :
    findV ((bs.map kB).flatMap itsB) l p = (psI l 0 i, psI l 0 j, true) := by
  have hpl : p ≤ l.length := by have := pl_le (l := l) (i := i) (by omega); omega
  obtain ⟨i0, a, b, c⟩ := pl_from p hpl
  exact (find_rows p hpl i0 a b).1 i j ((c i (by omega)).1 hp) hij hj hg (fun i' j' k1 k2 k3 k4 => hfirst i' j' k2 ((c i' (by omega)).2 k1) k3 k4) hlast
theorem find_no (p : Int) (h : ∀ i j, p ≤ (psI l 0 i : Int) → i ≤ j → j ≤ (Cs 0 l).length → goV bs (Cs 0 l) i j = false) : findV ((bs.map kB).flatMap itsB) l p = (0, 0, false) := by
  by_cases hpl : p ≤ l.length
  · obtain ⟨i0, a, b, c⟩ := pl_from p hpl
    exact (find_rows p hpl i0 a b).2 (fun i j k1 k2 k3 => h i j ((c i (by omega)).2 k1) k2 k3)
  · unfold findV
    rw [if_pos (by omega)]
end
end Go.Proofs.YtodooppapciegaaGreatDoor
namespace Go.Proofs.YtodooppapciegaaGreatDoor
set_option linter.unusedVariables false

theorem by'_take (l : List UInt8) (j k : Nat) : by' (l.take j) k = if k < j then by' l k else 0 := by
  unfold by'
  rw [List.getElem?_take]
  split <;> simp
theorem not_Co0 : ¬ Co 0 := fun h => by have := h.1; omega

theorem wd_same {b0 b1 b2 b3 c1 c2 c3 : Nat} {j : Nat} (hj : 1 ≤ j) (h1 : c1 = if 1 < j then b1 else 0) (h2 : c2 = if 2 < j then b2 else 0) (h3 : c3 = if 3 < j then b3 else 0) :
    wd b0 c1 c2 c3 = if wd b0 b1 b2 b3 ≤ j then wd b0 b1 b2 b3 else 0 := by
  have z := not_Co0
  rcases Nat.lt_or_ge 3 j with g | g
  · rw [if_pos (by omega)] at h1 h2 h3
    subst h1 h2 h3
    rw [if_pos (Nat.le_trans (wd_le _ _ _ _) (by omega))]
  · have hj3 : j = 1 ∨ j = 2 ∨ j = 3 := by omega
    rcases hj3 with rfl | rfl | rfl
    · simp at h1 h2 h3
      subst h1 h2 h3
      rcases wd_cases b0 b1 b2 b3 with g | g | g | g | g
      · rw [if_pos (by omega)]
        rcases wd_cases b0 0 0 0 with k | k | k | k | k
        · omega
        · exact absurd k.2.2.2.2 z
        · exact absurd k.2.2.2.2.1 z
        · exact absurd k.2.2.2.2.1 z
        · omega
      all_goals
        rcases wd_cases b0 0 0 0 with k | k | k | k | k
        · omega
        · exact absurd k.2.2.2.2 z
        · exact absurd k.2.2.2.2.1 z
        · exact absurd k.2.2.2.2.1 z
        · rw [k.1]; split <;> omega
    · simp at h1 h2 h3
      subst h1 h2 h3
      rcases wd_cases b0 c1 b2 b3 with g | g | g | g | g
      all_goals
        rcases wd_cases b0 c1 0 0 with k | k | k | k | k
        · split <;> omega
        · split <;> omega
        · exact absurd k.2.2.2.2.2 z
        · exact absurd k.2.2.2.2.2.1 z
        · split <;> omega
    · simp at h1 h2 h3
      subst h1 h2 h3
      rcases wd_cases b0 c1 c2 b3 with g | g | g | g | g
      all_goals
        rcases wd_cases b0 c1 c2 0 with k | k | k | k | k
        · split <;> omega
        · split <;> omega
        · (try unfold Co at g); (try unfold Co at k); split <;> omega
        · exact absurd k.2.2.2.2.2.2 z
        · (try unfold Co at g); (try unfold Co at k); split <;> omega

theorem W_take (l : List UInt8) (j : Nat) (hj : 1 ≤ j) : W (l.take j) = if W l ≤ j then W l else 0 := by
  unfold W
  refine (wd_same (b1 := by' l 1) (b2 := by' l 2) (b3 := by' l 3) hj (by'_take l j 1) (by'_take l j 2) (by'_take l j 3)).trans ?_
  have e : by' (l.take j) 0 = by' l 0 := by rw [by'_take, if_pos (by omega)]
  rw [e]
theorem W_take_le {l : List UInt8} {j : Nat} (hj : 1 ≤ j) (h : W l ≤ j) : W (l.take j) = W l := by rw [W_take l j hj, if_pos h]
theorem W_take_lt {l : List UInt8} {j : Nat} (hj : 1 ≤ j) (h : j < W l) : W (l.take j) = 0 := by rw [W_take l j hj, if_neg (by omega)]
theorem rune_take {l : List UInt8} {j : Nat} (hj : 1 ≤ j) (h : W l ≤ j) : rune (l.take j) = rune l := by
  unfold rune
  rw [W_take_le hj h]
  have h4 := W_le4 l
  have e : ∀ k, k < j → by' (l.take j) k = by' l k := fun k hk => by rw [by'_take, if_pos hk]
  have hw : W l = 0 ∨ W l = 1 ∨ W l = 2 ∨ W l = 3 ∨ W l = 4 := by omega
  rcases hw with w | w | w | w | w <;> rw [w]
  · simp [num]
  · show by' (l.take j) 0 = by' l 0
    exact e 0 (by omega)
  · show by' (l.take j) 0 % 32 * 64 + by' (l.take j) 1 % 64 = by' l 0 % 32 * 64 + by' l 1 % 64
    rw [e 0 (by omega), e 1 (by omega)]
  · show by' (l.take j) 0 % 16 * 4096 + by' (l.take j) 1 % 64 * 64 + by' (l.take j) 2 % 64 = by' l 0 % 16 * 4096 + by' l 1 % 64 * 64 + by' l 2 % 64
    rw [e 0 (by omega), e 1 (by omega), e 2 (by omega)]
  · show by' (l.take j) 0 % 8 * 262144 + by' (l.take j) 1 % 64 * 4096 + by' (l.take j) 2 % 64 * 64 + by' (l.take j) 3 % 64 = by' l 0 % 8 * 262144 + by' l 1 % 64 * 4096 + by' l 2 % 64 * 64 + by' l 3 % 64
    rw [e 0 (by omega), e 1 (by omega), e 2 (by omega), e 3 (by omega)]

theorem W_le_cw (l : List UInt8) : W l ≤ cw l := by unfold cw; split <;> omega

/-- Cut where a character begins, a text has on both sides the characters of the whole. -/
theorem Cs_cut (l : List UInt8) : ∀ i a, (St l i ∨ i = l.length) → Cs a l = Cs a (l.take i) ++ Cs (a + i) (l.drop i) := by
  induction l using byChars with
  | h0 => intro i a h; simp [Cs_nil]
  | h1 l hl ih =>
    intro i a h
    by_cases h0 : i = 0
    · subst h0; simp [Cs_nil]
    · have hn := cw_len l hl
      have hp := cw_pos l
      have hil : i ≤ l.length := by rcases h with h | h; exact Nat.le_of_lt (St_lt h); omega
      have hci : cw l ≤ i := by
        rcases h with h | h
        · rcases Nat.lt_or_ge i (cw l) with g | g
          · exact absurd h (St_inside hl (by omega) g)
          · exact g
        · omega
      have hWi : W l ≤ i := Nat.le_trans (W_le_cw l) hci
      have htn : l.take i ≠ [] := fun e => by have := congrArg List.length e; rw [List.length_take, List.length_nil] at this; omega
      have hcw : cw (l.take i) = cw l := by unfold cw; rw [W_take_le (by omega) hWi]
      have hst : St (l.drop (cw l)) (i - cw l) ∨ i - cw l = (l.drop (cw l)).length := by
        rcases h with h | h
        · rw [show i = cw l + (i - cw l) by omega] at h
          exact .inl ((St_step hl _).1 h)
        · right; rw [List.length_drop]; omega
      rw [Cs_cons a l hl, Cs_cons a (l.take i) htn, hcw, rune_take (by omega) hWi, List.cons_append, ih (i - cw l) (a + cw l) hst]
      rw [List.drop_take, List.drop_drop, show cw l + (i - cw l) = i by omega, show a + cw l + (i - cw l) = a + i by omega]

/-- The runes of a text. -/
def runesV (l : List UInt8) : List Nat := (Cs 0 l).map (·.2.1)
theorem runes_shift (a : Nat) (l : List UInt8) : (Cs a l).map (·.2.1) = runesV l := by
  unfold runesV
  rw [Cs_shift l a, List.map_map]
  rfl
theorem runesV_len (l : List UInt8) : (runesV l).length = (Cs 0 l).length := by unfold runesV; simp
theorem runesV_cons (l : List UInt8) (h : l ≠ []) : runesV l = rune l :: runesV (l.drop (cw l)) := by
  conv => lhs; unfold runesV
  rw [Cs_cons 0 l h, List.map_cons, runes_shift]
theorem runesV_nil : runesV [] = [] := rfl
theorem runesV_cut (l : List UInt8) (i : Nat) (h : St l i ∨ i = l.length) : runesV l = runesV (l.take i) ++ runesV (l.drop i) := by
  conv => lhs; unfold runesV
  rw [Cs_cut l i 0 h, List.map_append, runes_shift, runes_shift]
/-- Bytes that follow, at the beginning of a text, are wrong ones. -/
theorem runesV_co (q : List UInt8) : ∀ k, k ≤ q.length → (∀ m, m < k → Co (by' q m)) → runesV q = List.replicate k 65533 ++ runesV (q.drop k) := by
  intro k
  induction k generalizing q with
  | zero => intro _ _; simp
  | succ k ih =>
    intro hk hc
    have hq : q ≠ [] := fun e => by rw [e] at hk; simp at hk
    have h0 := W_of_co q (hc 0 (by omega))
    rw [runesV_cons q hq, rune_0 h0, cw_0 h0, ih (q.drop 1) (by rw [List.length_drop]; omega) (fun m hm => by rw [by'_drop]; exact hc (1 + m) (by omega)), List.drop_drop, List.replicate_succ, List.cons_append, Nat.add_comm 1 k]

theorem proper_of (p : List UInt8) (h1 : 1 ≤ p.length) (h3 : p.length ≤ 3) (q : List UInt8) (h : p.length < W (p ++ q)) : properV p = true := by
  have hpn : p ≠ [] := fun e => by rw [e] at h1; simp at h1
  have hcl : ∀ q : List UInt8, closesV p q = cw (p ++ q.take 3) - p.length := fun q => by
    unfold closesV; rw [if_neg]; intro hh; rcases hh with hh | hh; exact hpn hh; omega
  have hb : ∀ (q : List UInt8) (k : Nat), by' (p ++ q) k = if k < p.length then by' p k else by' q (k - p.length) := by
    intro q k
    unfold by'
    rw [List.getElem?_append]
    split <;> rfl
  have key : p.length < W (p ++ [128, 128, 128]) ∨ p.length < W (p ++ [191, 191, 191]) := by
    unfold W at h ⊢
    simp only [hb] at h ⊢
    have a0 : by' [128, 128, 128] 0 = 128 := by decide
    have a1 : by' [128, 128, 128] 1 = 128 := by decide
    have a2 : by' [128, 128, 128] 2 = 128 := by decide
    have c0 : by' [191, 191, 191] 0 = 191 := by decide
    have c1 : by' [191, 191, 191] 1 = 191 := by decide
    have c2 : by' [191, 191, 191] 2 = 191 := by decide
    have hl : p.length = 1 ∨ p.length = 2 ∨ p.length = 3 := by omega
    rcases hl with hl | hl | hl
    · rw [hl] at h ⊢
      simp only [show ¬ (1 : Nat) < 1 by omega, show ¬ (2 : Nat) < 1 by omega, show ¬ (3 : Nat) < 1 by omega, if_false, if_true, Nat.sub_self, show (2 : Nat) - 1 = 1 by omega, show (3 : Nat) - 1 = 2 by omega, show (0 : Nat) < 1 by omega, a0, a1, a2, c0, c1, c2] at h ⊢
      have hlead : 194 ≤ by' p 0 ∧ by' p 0 ≤ 244 := by
        rcases wd_cases (by' p 0) (by' q 0) (by' q 1) (by' q 2) with g | g | g | g | g <;> omega
      generalize by' p 0 = b0 at hlead ⊢
      clear h hb hcl
      unfold wd
      by_cases g1 : b0 = 224 ∨ b0 = 240
      · right
        rcases g1 with rfl | rfl <;> decide
      · left
        have hn : need b0 128 = 2 ∨ need b0 128 = 3 ∨ need b0 128 = 4 := by
          unfold need
          rw [if_neg (by omega)]
          split
          · exact .inl rfl
          · split
            · exact .inr (.inl rfl)
            · split
              · exact .inr (.inr rfl)
              · omega
        rcases hn with hn | hn | hn <;> rw [hn] <;> decide
    · rw [hl] at h ⊢
      simp only [show (1 : Nat) < 2 by omega, show ¬ (2 : Nat) < 2 by omega, show ¬ (3 : Nat) < 2 by omega, if_false, if_true, Nat.sub_self, show (3 : Nat) - 2 = 1 by omega, show (0 : Nat) < 2 by omega, a0, a1] at h ⊢
      left
      unfold wd at h ⊢
      have hn : need (by' p 0) (by' p 1) = 3 ∨ need (by' p 0) (by' p 1) = 4 := by
        rcases wd_cases (by' p 0) (by' p 1) (by' q 0) (by' q 1) with g | g | g | g | g
        all_goals (first | exact .inl g.2.1 | exact .inr g.2.1 | (exfalso; have := g.1; unfold wd at this; omega))
      rcases hn with hn | hn <;> rw [hn] <;> decide
    · rw [hl] at h ⊢
      simp only [show (1 : Nat) < 3 by omega, show (2 : Nat) < 3 by omega, show ¬ (3 : Nat) < 3 by omega, if_false, if_true, Nat.sub_self, show (0 : Nat) < 3 by omega, a0] at h ⊢
      left
      rcases wd_cases (by' p 0) (by' p 1) (by' p 2) (by' q 0) with g | g | g | g | g
      · omega
      · omega
      · omega
      · have : wd (by' p 0) (by' p 1) (by' p 2) 128 = 4 := by
          unfold wd
          rw [g.2.1, if_neg (by decide), if_neg (by decide), if_neg (by omega), if_pos ⟨rfl, g.2.2.2.2.2.1.1, g.2.2.2.2.2.1.2, by decide, by decide⟩]
        omega
      · omega
  unfold properV
  rw [hcl, hcl]
  rcases key with k | k
  · rw [decide_eq_true]
    · rfl
    · show 0 < cw (p ++ [128, 128, 128]) - p.length
      rw [cw_W (by omega)]; omega
  · rw [Bool.or_eq_true, decide_eq_true_eq, decide_eq_true_eq]
    right
    show 0 < cw (p ++ [191, 191, 191]) - p.length
    rw [cw_W (by omega)]; omega

theorem closes_pos {p q : List UInt8} (h : 0 < closesV p q) : 1 ≤ p.length ∧ p.length ≤ 3 ∧ p.length < W (p ++ q.take 3) ∧ closesV p q = W (p ++ q.take 3) - p.length := by
  unfold closesV at h ⊢
  split at h
  · omega
  · rename_i hn
    rw [if_neg hn]
    have hp : p ≠ [] := fun e => hn (.inl e)
    have := List.length_pos_iff.2 hp
    have h3 : p.length ≤ 3 := by rcases Nat.lt_or_ge 3 p.length with g | g; exact absurd (.inr g) hn; exact g
    have hw : W (p ++ q.take 3) = cw (p ++ q.take 3) := cw_big (by omega)
    exact ⟨by omega, h3, by omega, by rw [hw]⟩
theorem proper_pos {p : List UInt8} (h : properV p = true) : 1 ≤ p.length ∧ p.length ≤ 3 ∧ ∃ q, p.length < W (p ++ q) := by
  unfold properV at h
  rw [Bool.or_eq_true, decide_eq_true_eq, decide_eq_true_eq] at h
  rcases h with h | h
  · have := closes_pos h; exact ⟨this.1, this.2.1, _, this.2.2.1⟩
  · have := closes_pos h; exact ⟨this.1, this.2.1, _, this.2.2.1⟩
theorem proper_lead {p : List UInt8} (h : properV p = true) : ¬ Co (by' p 0) := by
  obtain ⟨h1, _, q, hq⟩ := proper_pos h
  have hl := W_lead (p ++ q) (by omega)
  have : by' (p ++ q) 0 = by' p 0 := by unfold by'; rw [List.getElem?_append_left (by omega)]
  rw [this] at hl
  intro hc
  have := hc.2
  omega

theorem pend_le (l : List UInt8) : pendingV l ≤ 3 ∧ pendingV l ≤ l.length := by
  unfold pendingV pendF
  split
  · split
    · omega
    · unfold pendF
      split
      · split
        · omega
        · unfold pendF
          split
          · split
            · omega
            · simp [pendF]
          · omega
      · omega
  · omega
theorem pend_proper {l : List UInt8} (h : 0 < pendingV l) : properV (l.drop (l.length - pendingV l)) = true := by
  unfold pendingV pendF at h ⊢
  split at h
  · rename_i h1
    rw [if_pos h1]
    split at h
    · rename_i h2; rw [if_pos h2]; exact h2
    · rename_i h2
      rw [if_neg h2]
      unfold pendF at h ⊢
      split at h
      · rename_i h3
        rw [if_pos h3]
        split at h
        · rename_i h4; rw [if_pos h4]; exact h4
        · rename_i h4
          rw [if_neg h4]
          unfold pendF at h ⊢
          split at h
          · rename_i h5
            rw [if_pos h5]
            split at h
            · rename_i h6; rw [if_pos h6]; exact h6
            · simp [pendF] at h
          · omega
      · omega
  · omega
/-- What is pending is told, if the bytes behind its first one follow. -/
theorem pend_eq {l : List UInt8} {n : Nat} (h1 : 1 ≤ n) (h3 : n ≤ 3) (hn : n ≤ l.length) (hp : properV (l.drop (l.length - n)) = true) (hc : ∀ m, 1 ≤ m → m < n → Co (by' l (l.length - m))) : pendingV l = n := by
  have no : ∀ m, 1 ≤ m → m < n → properV (l.drop (l.length - m)) ≠ true := fun m hm1 hm2 hh => proper_lead hh (by rw [by'_drop, Nat.add_zero]; exact hc m hm1 hm2)
  have hl : n = 1 ∨ n = 2 ∨ n = 3 := by omega
  rcases hl with rfl | rfl | rfl
  · unfold pendingV pendF
    rw [if_pos hn, if_pos hp]
  · unfold pendingV pendF
    rw [if_pos (by omega), if_neg (no 1 (by omega) (by omega))]
    unfold pendF
    rw [if_pos hn, if_pos hp]
  · unfold pendingV pendF
    rw [if_pos (by omega), if_neg (no 1 (by omega) (by omega))]
    unfold pendF
    rw [if_pos (by omega), if_neg (no 2 (by omega) (by omega))]
    unfold pendF
    rw [if_pos hn, if_pos hp]

/-- The bytes from j on, cut at i. -/
theorem cut_eq (l : List UInt8) (i j : Nat) (hj : j ≤ i) (hi : i ≤ l.length) (m : Nat) : (l.take i).drop j ++ (l.drop i).take m = (l.drop j).take (i - j + m) := by
  rw [List.drop_take, List.take_add, List.drop_drop, show j + (i - j) = i by omega]

/-- What is cut is told at the seam. -/
theorem seam (l : List UInt8) (i : Nat) (hi : i ≤ l.length) :
    ∃ n k : Nat, n = pendingV (l.take i) ∧ k = closesV ((l.take i).drop (i - n)) (l.drop i) ∧ n ≤ 3 ∧ n ≤ i ∧ k ≤ (l.drop i).length ∧ n + k ≤ 4 ∧ (n = 0 → k = 0) ∧ beginsV l i = decide (k = 0) ∧
      ((k = 0 ∧ runesV l = runesV (l.take i) ++ runesV (l.drop i)) ∨
       (0 < k ∧ ∃ R S, runesV (l.take i) = R ++ List.replicate n 65533 ∧ runesV (l.drop i) = List.replicate k 65533 ++ S ∧ runesV l = R ++ rune ((l.drop (i - n)).take (n + k)) :: S ∧
          W ((l.drop (i - n)).take (n + k)) = n + k ∧ runesV ((l.take i).drop (i - n)) = List.replicate n 65533 ∧ runesV ((l.drop i).take k) = List.replicate k 65533)) := by
  have hla : (l.take i).length = i := by rw [List.length_take]; omega
  have hbv : beginsV l i = decide (i = l.length ∨ op l i = i ∨ op l i + cw (l.drop (op l i)) ≤ i) := by
    unfold beginsV
    rw [decide_eq_true (by omega : (0 : Int) ≤ (i : Int)), decide_eq_true (by omega : (i : Int) ≤ (l.length : Int)), Int.toNat_natCast]
    rw [Bool.eq_iff_iff]
    simp only [Bool.and_eq_true, Bool.or_eq_true, decide_eq_true_eq, true_and]
    omega
  have hpl := pend_le (l.take i)
  rw [hla] at hpl
  by_cases hcr : ∃ j, j < i ∧ i < j + W (l.drop j)
  · -- a character is cut
    obtain ⟨j, hji, hij⟩ := hcr
    have h4 := W_le4 (l.drop j)
    have hlead := W_lead (l.drop j) (by omega)
    rw [by'_drop, Nat.add_zero] at hlead
    have hne : l.drop j ≠ [] := drop_ne (by omega)
    have hWl := W_len _ hne
    rw [List.length_drop] at hWl
    have hco : ∀ m, j < m → m < j + W (l.drop j) → Co (by' l m) := fun m h1 h2 => by
      have := W_co (l.drop j) (m - j) (by omega) (by omega)
      rwa [by'_drop, show j + (m - j) = m by omega] at this
    have hSj : St l j := St_of_not_co l j (by omega) (by intro h; have := h.2; omega)
    have hp : properV ((l.take i).drop j) = true := by
      refine proper_of _ (by rw [List.length_drop, hla]; omega) (by rw [List.length_drop, hla]; omega) ((l.drop i).take 3) ?_
      rw [cut_eq l i j (by omega) hi, W_take_le (by omega) (by omega), List.length_drop, hla]
      omega
    have hn : pendingV (l.take i) = i - j := by
      refine pend_eq (by omega) (by omega) (by rw [hla]; omega) (by rw [hla, show i - (i - j) = j by omega]; exact hp) (fun m h1 h2 => ?_)
      rw [hla, by'_take, if_pos (by omega)]
      exact hco _ (by omega) (by omega)
    have hk : closesV ((l.take i).drop j) (l.drop i) = j + W (l.drop j) - i := by
      unfold closesV
      rw [if_neg, cut_eq l i j (by omega) hi, List.length_drop, hla]
      · have : W ((l.drop j).take (i - j + 3)) = W (l.drop j) := W_take_le (by omega) (by omega)
        rw [cw_W (by omega), this]; omega
      · intro hh
        rcases hh with hh | hh
        · have := congrArg List.length hh; rw [List.length_drop, hla] at this; simp at this; omega
        · rw [List.length_drop, hla] at hh; omega
    have hnk : i - j + (j + W (l.drop j) - i) = W (l.drop j) := by omega
    have hNS : ¬ (i = l.length ∨ op l i = i ∨ op l i + cw (l.drop (op l i)) ≤ i) := by
      intro h
      rcases h with h | h
      · omega
      · have hs := (begins_iff l i (by omega)).1 h
        have := St_two hs hSj hji
        rw [cw_W (by omega)] at this
        omega
    refine ⟨i - j, j + W (l.drop j) - i, hn.symm, by rw [show i - (i - j) = j by omega, hk], by omega, by omega, by rw [List.length_drop]; omega, by omega, fun h => by omega, ?_, .inr ⟨by omega, ?_⟩⟩
    · rw [hbv, decide_eq_false hNS, decide_eq_false (by omega)]
    · rw [hnk, show i - (i - j) = j by omega]
      have hWt : W ((l.drop j).take (W (l.drop j))) = W (l.drop j) := W_take_le (by omega) (Nat.le_refl _)
      have hSja : St (l.take i) j := St_of_not_co _ j (by rw [hla]; exact hji) (by rw [by'_take, if_pos hji]; intro h; have := h.2; omega)
      have hpart : runesV ((l.take i).drop j) = List.replicate (i - j) 65533 := by
        have hd : ((l.take i).drop j).length = i - j := by rw [List.length_drop, hla]
        have hW0 : W ((l.take i).drop j) = 0 := by rw [List.drop_take]; exact W_take_lt (by omega) (by omega)
        have hne' : (l.take i).drop j ≠ [] := drop_ne (by rw [hla]; exact hji)
        rw [runesV_cons _ hne', rune_0 hW0, cw_0 hW0]
        rw [runesV_co _ (i - j - 1) (by rw [List.length_drop, hd]; omega) (fun m hm => by
          rw [by'_drop, by'_drop, by'_take, if_pos (by omega)]; exact hco _ (by omega) (by omega))]
        rw [List.drop_eq_nil_of_le (by rw [List.length_drop, hd]; omega), runesV_nil, List.append_nil]
        conv => rhs; rw [show i - j = (i - j - 1) + 1 by omega, List.replicate_succ]
      have hkb : ∀ m, m < j + W (l.drop j) - i → Co (by' (l.drop i) m) := fun m hm => by rw [by'_drop]; exact hco _ (by omega) (by omega)
      refine ⟨runesV (l.take j), runesV (l.drop (j + W (l.drop j))), ?_, ?_, ?_, hWt, hpart, ?_⟩
      · rw [runesV_cut (l.take i) j (.inl hSja), hpart, List.take_take, Nat.min_eq_left (by omega)]
      · rw [runesV_co (l.drop i) (j + W (l.drop j) - i) (by rw [List.length_drop]; omega) hkb, List.drop_drop, show i + (j + W (l.drop j) - i) = j + W (l.drop j) by omega]
      · rw [runesV_cut l j (.inl hSj), runesV_cons _ hne, rune_take (by omega) (Nat.le_refl _), cw_W (by omega), List.drop_drop]
      · have hd : ((l.drop i).take (j + W (l.drop j) - i)).length = j + W (l.drop j) - i := by rw [List.length_take, List.length_drop]; omega
        rw [runesV_co _ (j + W (l.drop j) - i) (by rw [hd]; exact Nat.le_refl _) (fun m hm => by rw [by'_take, if_pos hm]; exact hkb m hm)]
        have e : ((l.drop i).take (j + W (l.drop j) - i)).drop (j + W (l.drop j) - i) = [] := List.drop_eq_nil_of_le (by rw [hd]; exact Nat.le_refl _)
        rw [e, runesV_nil, List.append_nil]
  · -- none is
    have hbd : St l i ∨ i = l.length := by
      by_cases he : i = l.length
      · exact .inr he
      · left
        obtain ⟨j, h1, h2, h3⟩ := St_cover l i (by omega)
        by_cases hji : j = i
        · subst hji; exact h1
        · exact absurd ⟨j, by omega, by rw [cw_big (by omega)]; exact h3⟩ hcr
    have hk0 : closesV ((l.take i).drop (i - pendingV (l.take i))) (l.drop i) = 0 := by
      rcases Nat.eq_zero_or_pos (closesV ((l.take i).drop (i - pendingV (l.take i))) (l.drop i)) with h | h
      · exact h
      · exfalso
        obtain ⟨h1, h2, h3, h4⟩ := closes_pos h
        rw [cut_eq l i _ (by omega) hi, List.length_drop, hla] at h3
        rw [List.length_drop, hla] at h1 h2
        refine hcr ⟨i - pendingV (l.take i), by omega, ?_⟩
        have hw4 := W_le4 (l.drop (i - pendingV (l.take i)))
        rw [W_take_le (by omega) (by omega)] at h3
        omega
    refine ⟨pendingV (l.take i), 0, rfl, hk0.symm, hpl.1, hpl.2, by omega, by omega, fun _ => rfl, ?_, .inl ⟨rfl, runesV_cut l i hbd⟩⟩
    rw [hbv, decide_eq_true rfl, decide_eq_true]
    rcases hbd with h | h
    · exact .inr ((begins_iff l i (St_lt h)).2 h)
    · exact .inl h
end Go.Proofs.YtodooppapciegaaGreatDoor
namespace Go.Proofs.YtodooppapciegaaGreatDoor
open Go.RowKit Go.Shelf
set_option linter.unusedVariables false
set_option linter.unusedSimpArgs false
theorem ch1_take {u : List UInt8} (hu : u ≠ []) : ch1 (u.take (cw u)) = ch1 u ∧ cw (u.take (cw u)) = cw u := by
  have hc := cw_pos u
  have hw : W (u.take (cw u)) = W u := W_take_le hc (by unfold cw; split <;> omega)
  have h2 : cw (u.take (cw u)) = cw u := by
    have e : ∀ v : List UInt8, cw v = if W v = 0 then 1 else W v := fun v => rfl
    rw [e (u.take (cw u)), hw, ← e u]
  have hn : u.take (cw u) ≠ [] := fun e => by
    rcases List.take_eq_nil_iff.1 e with e | e
    · omega
    · exact hu e
  exact ⟨ch1_same hn hu h2 (fun k hk => by rw [by'_take, if_pos (by omega)]), h2⟩
/-- The character ahead of where one ends. -/
theorem chB_next {l : List UInt8} {q : Nat} (h : St l q) : chB l (q + cw (l.drop q)) = ch1 (l.drop q) := by
  have hq := St_lt h
  have hl := cw_len _ (drop_ne hq)
  have hc := cw_pos (l.drop q)
  rw [List.length_drop] at hl
  obtain ⟨p, hp⟩ : ∃ p, p = q + cw (l.drop q) := ⟨_, rfl⟩
  rw [← hp]
  have hbg : Bg l p := by rw [hp]; exact bg_next h
  have hcut := Cs_cut l p 0 (hbg.symm)
  have hst : St (l.take p) q := by
    obtain ⟨e, he, rfl⟩ := id h
    rw [hcut] at he
    rcases List.mem_append.1 he with he | he
    · exact ⟨e, he, rfl⟩
    · have := Cs_mem _ _ e he
      omega
  have hd : (l.take p).drop q = (l.drop q).take (cw (l.drop q)) := by
    rw [List.drop_take]
    congr 1
    omega
  obtain ⟨k1, k2⟩ := ch1_take (drop_ne hq)
  have hne : l.take p ≠ [] := fun e => by
    have := St_lt hst
    rw [e] at this
    simp at this
  obtain ⟨j1, j2, _⟩ := last_iff (l.take p) hne
  have hlen : (l.take p).length = p := by rw [List.length_take]; omega
  have e : lastAt (l.take p) = q := by
    rcases Nat.lt_trichotomy (lastAt (l.take p)) q with h1 | h1 | h1
    · have := St_two hst j1 h1
      have := St_lt hst
      omega
    · exact h1
    · have h2 := St_two j1 hst h1
      rw [hd, k2] at h2
      have := St_lt j1
      omega
  have hw : wdB l p = cw (l.drop q) := by
    unfold wdB
    rw [if_neg (by omega), e, hd, k2]
  unfold chB
  rw [hw, show p - cw (l.drop q) = q by omega, hd, k1]
section
variable {l : List UInt8}
/-- A search that begins at a place sees the same characters. -/
theorem ahI_shift (a : Nat) (ha : a ≤ (Cs 0 l).length) : ∀ m, ahI l (psI l 0 a) m = ahI l 0 (a + m)
  | 0 => by
    show chB l (psI l 0 a) = ahI l 0 a
    cases a with
    | zero => rfl
    | succ a =>
      have h1 := (cs_ps l).1 a (by omega)
      have hs : St l (psI l 0 a) := ⟨_, List.mem_of_getElem? h1.1, rfl⟩
      have hn := drop_ne (St_lt hs)
      have h2 : psI l 0 (a + 1) = psI l 0 a + cw (l.drop (psI l 0 a)) := by
        show psI l 0 a + cw1 (l.drop (psI l 0 a)) = _
        unfold cw1
        rw [if_neg hn]
      rw [h2]
      exact chB_next hs
  | m + 1 => by
    show ch1 (l.drop (psI l (psI l 0 a) m)) = ch1 (l.drop (psI l 0 (a + m)))
    rw [psI_shift]
theorem wdI_shift (a m : Nat) : wdI l (psI l 0 a) m = wdI l 0 (a + m) := by
  unfold wdI
  rw [psI_shift]
theorem beI_shift (a : Nat) (ha : a ≤ (Cs 0 l).length) (m : Nat) : beI l (psI l 0 a) m = beI l 0 (a + m) := by
  unfold beI
  rw [psI_shift, ahI_shift a ha]
theorem enI_shift (a : Nat) (ha : a ≤ (Cs 0 l).length) (m : Nat) : enI l (psI l 0 a) m = enI l 0 (a + m) := by
  unfold enI
  rw [psI_shift, ahI_shift a ha]
theorem fit_shift (a : Nat) (ha : a ≤ (Cs 0 l).length) (x : Kd) (m : Nat) : fit l (psI l 0 a) x m ↔ fit l 0 x (a + m) := by
  unfold fit
  rw [wdI_shift, ahI_shift a ha]
  exact Iff.rfl
theorem lead_shift (a : Nat) (ha : a ≤ (Cs 0 l).length) : ∀ (r : List Kd) (i j : Nat), Lead l (psI l 0 a) r i j ↔ Lead l 0 r (a + i) (a + j)
  | [], i, j => by
    show i = j ↔ a + i = a + j
    omega
  | x :: r, i, j => by
    have ih := lead_shift a ha r
    unfold Lead
    rw [beI_shift a ha, enI_shift a ha, fit_shift a ha]
    split
    · rw [ih]
    · split
      · rw [ih]
      · split
        · rw [ih]; exact Iff.rfl
        · split
          · constructor
            · rintro ⟨k, h1, h2, h3⟩
              refine ⟨a + k, by omega, fun m h4 h5 => ?_, (ih k j).1 h3⟩
              have h6 := (fit_shift a ha x (m - a)).1 (h2 (m - a) (by omega) (by omega))
              rwa [show a + (m - a) = m by omega] at h6
            · rintro ⟨k, h1, h2, h3⟩
              refine ⟨k - a, by omega, fun m h4 h5 => (fit_shift a ha x m).2 (h2 (a + m) (by omega) (by omega)), (ih (k - a) j).2 ?_⟩
              rwa [show a + (k - a) = k by omega]
          · rw [ih, ih]; exact Iff.rfl
end
end Go.Proofs.YtodooppapciegaaGreatDoor
namespace Go.Proofs.YtodooppapciegaaGreatDoor
open Go.RowKit Go.Shelf
set_option linter.unusedVariables false
set_option linter.unusedSimpArgs false
section
variable {its : List Kd} {l : List UInt8}
theorem match_at {i : Nat} (hi : i ≤ (Cs 0 l).length) :
    ((matchV its l (psI l 0 i : Int)).2 = true → ∃ j, Lead l 0 its i j ∧ (psI l 0 j : Int) = (matchV its l (psI l 0 i : Int)).1) ∧
    (∀ j, Lead l 0 its i j → (matchV its l (psI l 0 i : Int)).2 = true ∧ (psI l 0 j : Int) ≤ (matchV its l (psI l 0 i : Int)).1) := by
  have hle := pl_le (l := l) hi
  obtain ⟨h1, h2⟩ := match_lead (its := its) (pl_begins (l := l) hi) (by omega) (by omega)
  rw [show ((psI l 0 i : Int)).toNat = psI l 0 i by omega] at h1 h2
  refine ⟨fun h => ?_, fun j hL => ?_⟩
  · obtain ⟨j, k1, k2⟩ := h1 h
    exact ⟨i + j, (lead_shift i hi its 0 j).1 k1, by rw [← psI_shift]; exact k2⟩
  · have hij := lead_le its i j hL
    obtain ⟨j, rfl⟩ : ∃ j', j = i + j' := ⟨j - i, by omega⟩
    have r := h2 j ((lead_shift i hi its 0 j).2 hL)
    rw [psI_shift] at r
    exact r
theorem search_at {a : Nat} {σ : Rs} (ha : a ≤ (Cs 0 l).length) (hl : σ.seen.length = its.length + 1) (hlow : ∀ (n r : Nat), σ.seen[n]? = some r → r ≤ σ.round) :
    ((searchF false its l (psI l 0 a) l.length σ).fo = true → ∃ i j, a ≤ i ∧ i ≤ j ∧ j ≤ (Cs 0 l).length ∧ psI l 0 i = (searchF false its l (psI l 0 a) l.length σ).bf ∧ Lead l 0 its i j ∧ psI l 0 j = (searchF false its l (psI l 0 a) l.length σ).bt) ∧
    (∀ i j, a ≤ i → i ≤ (Cs 0 l).length → Lead l 0 its i j → (searchF false its l (psI l 0 a) l.length σ).fo = true ∧
      ((searchF false its l (psI l 0 a) l.length σ).bf < psI l 0 i ∨ ((searchF false its l (psI l 0 a) l.length σ).bf = psI l 0 i ∧ psI l 0 j ≤ (searchF false its l (psI l 0 a) l.length σ).bt))) := by
  obtain ⟨h1, h2⟩ := found_lead (search_found (its := its) (l := l) (f := psI l 0 a) (t := (l.length : Int)) (σ := σ) (pl_le ha) hl hlow)
  have hN0 : wdI l 0 (Cs 0 l).length = 0 := by
    unfold wdI
    rw [(cs_ps l).2, List.drop_length]
    rfl
  refine ⟨fun h => ?_, fun i j hai hi hL => ?_⟩
  · obtain ⟨i, j, k1, _, k2, k3, k4⟩ := h1 h
    have hi : a + i ≤ (Cs 0 l).length := by
      rcases Nat.lt_or_ge (Cs 0 l).length (a + i) with h | h
      · have h4 := k2 ((Cs 0 l).length - a) (by omega)
        rw [wdI_shift, show a + ((Cs 0 l).length - a) = (Cs 0 l).length by omega] at h4
        exact absurd hN0 h4
      · exact h
    have k5 := (lead_shift a ha its i j).1 k3
    exact ⟨a + i, a + j, by omega, lead_le its _ _ k5, lead_top hN0 its _ _ hi k5, by rw [← psI_shift]; exact k1, k5, by rw [← psI_shift]; exact k4⟩
  · have hij := lead_le its i j hL
    obtain ⟨i, rfl⟩ : ∃ i', i = a + i' := ⟨i - a, by omega⟩
    obtain ⟨j, rfl⟩ : ∃ j', j = a + j' := ⟨j - a, by omega⟩
    have r := h2 i j (fun m hm => by rw [wdI_shift]; exact ((cs_ps l).1 (a + m) (by omega)).2) (by rw [psI_shift]; have := pl_le (l := l) hi; omega) ((lead_shift a ha its i j).2 hL)
    rw [psI_shift, psI_shift] at r
    exact r
end
end Go.Proofs.YtodooppapciegaaGreatDoor
namespace Go.Proofs.YtodooppapciegaaGreatDoor
open Go.RowKit Go.Shelf
set_option linter.unusedVariables false
set_option linter.unusedSimpArgs false
/-- Pieces from place a on: each is the first one from where it is looked for, and the longest there. -/
def Chain (its : List Kd) (l : List UInt8) : Nat → List (Nat × Nat) → Prop
  | _, [] => True
  | a, x :: r => ∃ i j, a ≤ i ∧ i ≤ j ∧ j ≤ (Cs 0 l).length ∧ psI l 0 i = x.1 ∧ psI l 0 j = x.2 ∧ Lead l 0 its i j ∧ (∀ j', Lead l 0 its i j' → psI l 0 j' ≤ x.2) ∧
      (∀ i' j', a ≤ i' → i' ≤ (Cs 0 l).length → Lead l 0 its i' j' → x.1 ≤ psI l 0 i') ∧ Chain its l (if i < j then j else j + 1) r
theorem pcs_chain {its : List Kd} {l : List UInt8} : ∀ (k a : Nat) (σ : Rs), a ≤ (Cs 0 l).length → σ.seen.length = its.length + 1 → (∀ (n r : Nat), σ.seen[n]? = some r → r ≤ σ.round) → Chain its l a (pcsF its l k (psI l 0 a) σ)
  | 0, a, σ, _, _, _ => trivial
  | k + 1, a, σ, ha, hl, hlow => by
    obtain ⟨g1, g2⟩ := search_at (its := its) ha hl hlow
    have hall := (searchF_all (g := false) (its := its) (l := l) (f := psI l 0 a) (t := (l.length : Int)) (σ := σ) (pl_le ha) hl).1.len
    have hlw := (search_found (its := its) (l := l) (f := psI l 0 a) (t := (l.length : Int)) (σ := σ) (pl_le ha) hl hlow).2.2
    unfold pcsF
    obtain ⟨τ, hτ⟩ : ∃ τ, τ = searchF false its l (psI l 0 a) (l.length : Int) σ := ⟨_, rfl⟩
    rw [← hτ] at g1 g2 hall hlw ⊢
    by_cases hfo : τ.fo = true
    · rw [if_pos hfo]
      obtain ⟨i, j, h1, h2, h3, h4, h5, h6⟩ := g1 hfo
      refine ⟨i, j, h1, h2, h3, h4, h6, h5, fun j' hL => ?_, fun i' j' h7 h8 hL => ?_, ?_⟩
      · have := (g2 i j' h1 (by omega) hL).2
        show psI l 0 j' ≤ τ.bt
        omega
      · have := (g2 i' j' h7 h8 hL).2
        show τ.bf ≤ psI l 0 i'
        omega
      · have hlt : τ.bf < τ.bt ↔ i < j := by
          rw [← h4, ← h6]
          constructor
          · intro h
            rcases Nat.lt_or_ge i j with h9 | h9
            · exact h9
            · obtain rfl : i = j := by omega
              omega
          · exact fun h => pl_lt h h3
        by_cases hij : i < j
        · rw [if_pos (hlt.2 hij), if_pos hij, ← h6]
          exact pcs_chain k j τ h3 hall hlw
        · rw [if_neg (fun h => hij (hlt.1 h)), if_neg hij, ← h6]
          by_cases hw : cw1 (l.drop (psI l 0 j)) = 0
          · rw [if_pos hw]; trivial
          · rw [if_neg hw]
            have hj : j + 1 ≤ (Cs 0 l).length := by
              rcases Nat.lt_or_ge j (Cs 0 l).length with h | h
              · exact h
              · obtain rfl : j = (Cs 0 l).length := by omega
                rw [(cs_ps l).2, List.drop_length] at hw
                exact absurd rfl hw
            exact pcs_chain k (j + 1) τ hj hall hlw
    · rw [if_neg hfo]; trivial
end Go.Proofs.YtodooppapciegaaGreatDoor
namespace Go.Proofs.YtodooppapciegaaGreatDoor
open Go.RowKit Go.Shelf
set_option linter.unusedVariables false
set_option linter.unusedSimpArgs false
/-- The greatest place up to one. -/
def prevB (l : List UInt8) : Nat → Nat
  | 0 => 0
  | p + 1 => if beginsV l ((p + 1 : Nat) : Int) then p + 1 else prevB l p
theorem prevB_le (l : List UInt8) : ∀ p, prevB l p ≤ p
  | 0 => Nat.le_refl _
  | p + 1 => by
    unfold prevB
    split
    · exact Nat.le_refl _
    · exact Nat.le_trans (prevB_le l p) (Nat.le_succ _)
theorem prevB_here {l : List UInt8} {p : Nat} (h : beginsV l (p : Int) = true) : prevB l p = p := by
  cases p with
  | zero => rfl
  | succ p => unfold prevB; rw [if_pos h]
theorem prevB_step {l : List UInt8} {p : Nat} (h : beginsV l ((p + 1 : Nat) : Int) = false) : prevB l (p + 1) = prevB l p := by
  conv => lhs; unfold prevB
  rw [h]; rfl
/-- The searches of Last, one after the other. -/
def lastF (its : List Kd) (l : List UInt8) : Nat → Nat → Nat → Rs → Nat × Nat × Bool
  | 0, _, _, _ => (0, 0, false)
  | k + 1, reach, t, σ =>
    if (searchF true its l (prevB l (t - reach)) (t : Int) σ).fo = true ∨ prevB l (t - reach) = 0 then
      ((searchF true its l (prevB l (t - reach)) (t : Int) σ).bf, (searchF true its l (prevB l (t - reach)) (t : Int) σ).bt, (searchF true its l (prevB l (t - reach)) (t : Int) σ).fo)
    else lastF its l k (reach * 16) (prevB l (t - reach) - 1) (searchF true its l (prevB l (t - reach)) (t : Int) σ)
def lastPV (its : List Kd) (l : List UInt8) (p : Int) : Nat × Nat × Bool :=
  if p < 0 then (0, 0, false) else lastF its l (l.length + 1) 16 (min p.toNat l.length) (run0 its.length)
theorem begins_zero (l : List UInt8) : beginsV l 0 = true := by
  unfold beginsV
  have h : op l 0 ≤ 0 := (op_le l 0).1
  simp
  right; left; omega
theorem RunL.great {B : Nat} {D : Nat → Prop} {s : ByteArray} {its : List Kd} {w : World} {b : Nat} {σ : Rs} (h : RunL B D s false its w b σ) :
    w.frozen? ⟨b, 2, none⟩ = false ∧ (∃ v, w.cell? ⟨b, 2, none⟩ = some v) ∧ RunL B D s true its (w.setCell ⟨b, 2, none⟩ (.bool true)) b σ ∧ B ≤ b := by
  obtain ⟨nv, iv, xv, S, hc⟩ := h
  refine ⟨hc.frz 2, ⟨_, hc.c2⟩, ⟨nv, iv, xv, S, ?_⟩, hc.lb⟩
  have g1 := grownX_set w b 2 (.bool true)
  have hB : Below B w (w.setCell ⟨b, 2, none⟩ (.bool true)) := (Below.refl _ _).setCell (p := ⟨b, 2, none⟩) hc.lb _
  exact ⟨heap_setCell_same w b 2 _ _ _ hc.box, hc.items.keep (.of_base hB (by simp [World.setCell]) hc.ltD), hc.now.kept g1 (.inr hc.nb), hc.next.kept g1 (.inr hc.xb), hc.apart, (heap_setCell_other w ⟨b, 2, none⟩ S _ hc.neS.symm).trans hc.seen, hc.lb, hc.lS, hc.ltD⟩
set_option maxRecDepth 100000 in
set_option maxHeartbeats 2000000 in
theorem lastp_any (D : Nat → Prop) (its : List Kd) (txt s : ByteArray) (w : World) (pb : Nat) (h : PatL D its txt w pb) (hl : its.length ≤ 65536) (hs : s.size ≤ 1000000000) (p : Int) (hp : -9223372036854775808 ≤ p ∧ p < 9223372036854775808) :
    Calls Tryz.prog 12 #[.pointer (some ⟨pb, 0, none⟩), .string s, .int .i64 p] w fun e w' => e = .returned (.tuple #[.agg #[.int .i64 ((lastPV its (bl s) p).1 : Int), .int .i64 ((lastPV its (bl s) p).2.1 : Int)], .bool (lastPV its (bl s) p).2.2]) ∧ Below w.heap.size w w' := by
  have hb0 : Below w.heap.size w (w.alloc (.cells #[.int .i64 0, .int .i64 0] 36)) := (Below.refl _ w).alloc (Nat.le_refl _) _
  have hx0 := heap_alloc_new w (.cells #[.int .i64 0, .int .i64 0] 36)
  have h1 := h.below hb0
  have kn := none_made pb true (w.alloc (.cells #[.int .i64 0, .int .i64 0] 36)) h1.made
  have KN := hide kn
  have HB0 := hide hb0
  have HX0 := hide hx0
  have HP := hide h1
  have hov := over_any D its txt s _ pb h1 hl
  have HOV := hide hov
  have HSZ : Hid ((w.alloc (.cells #[.int .i64 0, .int .i64 0] 36)).heap.size = w.heap.size + 1) := by show _ = _; simp
  obtain ⟨RV, hRV⟩ : ∃ R, R = lastPV its (bl s) p := ⟨_, rfl⟩
  rw [← hRV]
  clear kn h h1 hx0 hb0 hov
  go_enter Tryz.func12, Tryz.ntmps12
  go_upto_region 1 with (fail)
  generalize w.alloc (.cells #[.int .i64 0, .int .i64 0] 36) = V at *
  obtain ⟨A6, hA6⟩ : ∃ A, A = w.heap.size := ⟨_, rfl⟩
  rw [← hA6] at HX0 HSZ ⊢
  have HA6 := hide hA6
  clear hA6
  by_cases hp0 : p < 0
  · unfold lastPV at hRV
    rw [if_pos hp0] at hRV
    subst hRV
    have k0 := cel2 HX0.out 0 _ rfl
    have k1 := cel2 HX0.out 1 _ rfl
    have g0 := frzOf HX0.out 0
    have g1 := frzOf HX0.out 1
    go_wp2_with (go_at_call 16; refine (KN.out).mono ?_; rintro e x ⟨rfl, rfl⟩)
    have q6 := hide (box2 HX0.out (.int .i64 0) (.int .i64 0))
    refine bodyPost_ret (results_row_tmpX rfl _ _ A6 _ _ _ _ rfl q6.out Tryz.underlying36 rfl (by kernel_rfl)) rfl ?_
    exact ⟨rfl, (HB0.out.setCell (p := ⟨A6, 0, none⟩) (Nat.le_of_eq HA6.out.symm) _).setCell (p := ⟨A6, 1, none⟩) (Nat.le_of_eq HA6.out.symm) _⟩
  · unfold lastPV at hRV
    rw [if_neg hp0] at hRV
    obtain ⟨t0, ht0⟩ : ∃ t, t = min p.toNat s.size := ⟨_, rfl⟩
    have mn : min p (s.size : Int) = (t0 : Int) := by omega
    rw [bl_len, ← ht0] at hRV
    have ht1 : t0 ≤ s.size := by omega
    have HRV := hide hRV
    clear ht0 hRV
    go_upto_region 6 with (first
      | (go_at_call 16; refine (KN.out).mono ?_; rintro e x ⟨rfl, rfl⟩)
      | (go_at_call 20; refine (HOV.out).mono ?_; rintro e z ⟨b, rfl, hr, hb⟩; obtain ⟨g1, ⟨gv, g2⟩, g3, g4⟩ := hr.great; have G3 := hide g3; have G4 := hide g4; have HBZ := hide hb; clear hr hb g3 g4))
    have HLZ : Hid (A6 < x.heap.size) := by show _ < _; have := HSZ.out; omega
    obtain ⟨Y, hY⟩ : ∃ Y, Y = z.setCell ⟨b, 2, none⟩ (.bool true) := ⟨_, rfl⟩
    rw [← hY] at G3 ⊢
    have HY : Hid (Below x.heap.size x Y) := by show Below _ _ _; rw [hY]; exact HBZ.out.setCell (p := ⟨b, 2, none⟩) G4.out _
    have S0 := hide ((HY.out.block A6 HLZ.out).trans HX0.out)
    clear hY g1 g2 HBZ HOV KN
    go_wp2_with (fail)
    go_loopw [2, 9] (fun tv rv wr => ∃ (t k reach : Nat) (σ : Rs), tv = .int .i64 (t : Int) ∧ rv = .int .i64 (reach : Int) ∧ t ≤ s.size ∧ t + 1 ≤ k ∧ 1 ≤ reach ∧ (reach ≤ 16 ∨ reach ≤ s.size * 16) ∧ σ.seen.length = its.length + 1 ∧ σ.round ≤ (s.size + 1) * (s.size - t) ∧ RunL x.heap.size D s true its wr b σ ∧ wr.heap[A6]? = some (.cells #[.int .i64 0, .int .i64 0] 36 (0, 0)) ∧ Below w.heap.size w wr ∧ lastF its (bl s) k reach t σ = RV) (fun tv _ _ => (intOf tv).toNat)
    case atStart => exact ⟨t0, s.size + 1, 16, run0 its.length, rfl, rfl, ht1, by omega, by omega, .inl (Nat.le_refl _), by simp [run0], Nat.zero_le _, G3.out, S0.out, HB0.out.trans (HY.out.mono HB0.out.size), HRV.out.symm⟩
    case round =>
      obtain ⟨t, k, reach, σ, rfl, rfl, ht, hk, hr1, hr2, hsl, hrd, hrun, h6, hbw, hF⟩ := hrel
      obtain ⟨k, rfl⟩ : ∃ j, k = j + 1 := ⟨k - 1, by omega⟩
      obtain ⟨f, hf⟩ : ∃ f, f = prevB (bl s) (t - reach) := ⟨_, rfl⟩
      have hfl : f ≤ t - reach := by rw [hf]; exact prevB_le _ _
      obtain ⟨τ, hτ⟩ : ∃ τ, τ = searchF true its (bl s) f (t : Int) σ := ⟨_, rfl⟩
      unfold lastF at hF
      rw [← hf, ← hτ] at hF
      have hall := searchF_all (g := true) (its := its) (l := bl s) (t := (t : Int)) (f := f) (σ := σ) (by rw [bl_len]; omega) hsl
      rw [← hτ, bl_len] at hall
      have hrb : (s.size + 1) * (s.size - t) ≤ (s.size + 1) * s.size := Nat.mul_le_mul_left _ (by omega)
      have hrc : (s.size + 1) * s.size ≤ 1000000001 * 1000000000 := Nat.mul_le_mul (by omega) hs
      have hse := fun W (hw : RunL x.heap.size D s true its W b σ) => search_any x.heap.size D s true its W b σ hw hl hsl (by omega) (by omega) f (by omega) (t : Int) (by omega)
      rw [← hτ] at hse
      have HSE := hide hse
      have HFF := hide hF
      have HALL := hide hall
      have HRN := hide hrun
      have H6 := hide h6
      have HBW := hide hbw
      have HRD := hide hrd
      have HPF := hide hf
      have mx : max (0 : Int) ((t : Int) - (reach : Int)) = ((t - reach : Nat) : Int) := by omega
      clear hse hF hall hrun h6 hbw hrd hrb hrc hτ hf
      go_upto_region 9 with (fail)
      go_loopw [10] (fun fv wz => ∃ q : Nat, fv = .int .i64 (q : Int) ∧ q ≤ t - reach ∧ prevB (bl s) q = f ∧ Below wr.heap.size wr wz) (fun fv _ => (intOf fv).toNat)
      case atStart => exact ⟨t - reach, rfl, Nat.le_refl _, HPF.out.symm, Below.refl _ _⟩
      case round =>
        obtain ⟨q, rfl, hq, hqf, hwz⟩ := hrel
        have kb := fun W => begins_any s (q : Int) W (by omega)
        have HWZ := hide hwz
        cases hb : beginsV (bl s) (q : Int) with
        | false =>
          rw [hb] at kb
          obtain ⟨q, rfl⟩ : ∃ j, q = j + 1 := by
            cases q with
            | zero => rw [show ((0 : Nat) : Int) = 0 by rfl, begins_zero] at hb; cases hb
            | succ j => exact ⟨j, rfl⟩
          rw [prevB_step hb] at hqf
          have KB := hide kb
          have HQF := hide hqf
          clear kb hqf hb hwz
          go_wp2_with (go_at_call 19; refine (KB.out _).mono ?_; rintro e z1 ⟨rfl, hz⟩; have HZ := hide (bseq HWZ.out hz); clear hz)
          go_roundw
          case rel => exact ⟨q, by first | rfl | go_num | (congr 1; omega), by omega, HQF.out, HZ.out⟩
          case measure => first | (simp [intOf]; done) | (simp [intOf]; omega)
        | true =>
          rw [hb] at kb
          rw [prevB_here hb] at hqf
          subst hqf
          have KB := hide kb
          clear kb hb hwz
          go_upto_region 12 with (first
            | (go_at_call 19; refine (KB.out _).mono ?_; rintro e z1 ⟨rfl, hz⟩; have HZ := hide (bseq HWZ.out hz); clear hz KB)
            | (go_at_call 21; refine (HSE.out _ (HRN.out.below HZ.out)).mono ?_; rintro e z2 ⟨rfl, hr2, hk2⟩; have R2 := hide hr2; have K2 := hide hk2; clear hr2 hk2))
          have hb3 : Below z2.heap.size z2 (z2.alloc (.cells #[.int .i64 (τ.bf : Int), .int .i64 (τ.bt : Int)] 36)) := (Below.refl _ z2).alloc (Nat.le_refl _) _
          have hx3 := heap_alloc_new z2 (.cells #[.int .i64 (τ.bf : Int), .int .i64 (τ.bt : Int)] 36)
          have hxs : x.heap.size ≤ z2.heap.size := R2.out.low
          have R3 := hide (R2.out.below hb3)
          have S1 := (HZ.out.block A6 (Array.getElem?_eq_some_iff.1 H6.out).1).trans H6.out
          have S2 := (K2.out.1.block A6 HLZ.out).trans S1
          have S3 := hide ((hb3.block A6 (Array.getElem?_eq_some_iff.1 S2).1).trans S2)
          have W3 : Hid (Below w.heap.size w (z2.alloc (.cells #[.int .i64 (τ.bf : Int), .int .i64 (τ.bt : Int)] 36))) := by
            show Below _ _ _
            have a1 : Below w.heap.size w z1 := HBW.out.trans (HZ.out.mono HBW.out.size)
            have a2 : Below w.heap.size w z2 := a1.trans (K2.out.1.mono HB0.out.size)
            exact a2.trans (hb3.mono a2.size)
          obtain ⟨A, hA⟩ : ∃ A, A = z2.heap.size := ⟨_, rfl⟩
          rw [← hA] at hx3 ⊢
          have HX3 := hide hx3
          clear hA hb3 hx3 hxs S1 S2 R2 K2 HSE HRN H6 HZ HBW HWZ
          generalize z2.alloc (.cells #[.int .i64 (τ.bf : Int), .int .i64 (τ.bt : Int)] 36) = V at *
          obtain ⟨hok, hbf, hrn⟩ := HALL.out
          have hse3 := hok.len
          by_cases hst : τ.fo = true ∨ q = 0
          · have hE := HFF.out
            rw [if_pos hst] at hE
            subst hE
            have a0 := cel2 HX3.out 0 _ rfl
            have a1 := cel2 HX3.out 1 _ rfl
            have k0 := cel2 S3.out 0 _ rfl
            have k1 := cel2 S3.out 1 _ rfl
            have g0 := frzOf S3.out 0
            have g1 := frzOf S3.out 1
            have q6 := hide (box2 S3.out (.int .i64 (τ.bf : Int)) (.int .i64 (τ.bt : Int)))
            cases hfo : τ.fo with
            | true =>
              go_wp2_with (fail)
              refine bodyPost_ret (results_row_tmpX rfl _ _ A6 _ _ _ _ rfl q6.out Tryz.underlying36 rfl (by kernel_rfl)) rfl ?_
              exact ⟨rfl, (W3.out.setCell (p := ⟨A6, 0, none⟩) (Nat.le_of_eq HA6.out.symm) _).setCell (p := ⟨A6, 1, none⟩) (Nat.le_of_eq HA6.out.symm) _⟩
            | false =>
              obtain rfl : q = 0 := hst.resolve_left (by rw [hfo]; decide)
              go_wp2_with (fail)
              refine bodyPost_ret (results_row_tmpX rfl _ _ A6 _ _ _ _ rfl q6.out Tryz.underlying36 rfl (by kernel_rfl)) rfl ?_
              exact ⟨rfl, (W3.out.setCell (p := ⟨A6, 0, none⟩) (Nat.le_of_eq HA6.out.symm) _).setCell (p := ⟨A6, 1, none⟩) (Nat.le_of_eq HA6.out.symm) _⟩
          · have hE := HFF.out
            rw [if_neg hst] at hE
            have hfo : τ.fo = false := by
              cases h : τ.fo with
              | true => exact absurd (.inl h) hst
              | false => rfl
            have hq0 : q ≠ 0 := fun h => hst (.inr h)
            have hqI : ¬ ((q : Int) = 0) := by omega
            have RD2 : Hid (τ.round ≤ (s.size + 1) * (s.size - (q - 1))) := by
              show _ ≤ _
              have h1 := HRD.out
              have h2 : (s.size + 1) * (s.size - t + 1) ≤ (s.size + 1) * (s.size - (q - 1)) := Nat.mul_le_mul_left _ (by omega)
              rw [Nat.mul_succ] at h2
              omega
            have HE := hide hE
            rw [hfo]
            clear hE HFF HALL hok hbf hrn HRD
            go_wp2_with (fail)
            go_roundw
            case rel => exact ⟨q - 1, k, reach * 16, τ, by first | rfl | (congr 1; omega), by first | rfl | (congr 1; omega), by omega, by omega, by omega, .inr (by omega), hse3, RD2.out, R3.out, S3.out, W3.out, HE.out⟩
            case measure => first | (simp [intOf]; done) | (simp [intOf]; omega)
end Go.Proofs.YtodooppapciegaaGreatDoor
namespace Go.Proofs.YtodooppapciegaaGreatDoor
open Go.RowKit Go.Shelf
set_option linter.unusedVariables false
set_option linter.unusedSimpArgs false
section
variable {its : List Kd} {l : List UInt8} {f : Nat} {t : Int}
/-- Within a round: what has been marked, with the beginning that it was marked with, all at most m. Items of e still wait for what follows them. -/
structure MidG (its : List Kd) (l : List UInt8) (f : Nat) (t : Int) (i : Nat) (σ : Rs) (mk : Nat → Nat) (m : Nat) (e : Nat → Prop) : Prop where
  len : σ.seen.length = its.length + 1
  low : ∀ (n r : Nat), σ.seen[n]? = some r → r ≤ σ.round
  loc : σ.loc = psI l f i
  be : σ.be = beI l f i
  en : σ.en = enI l f i
  reach : ∀ n, σ.seen[n]? = some σ.round → m ≤ mk n ∧ Reach its l f t i n (mk n)
  wait : ∀ (n : Nat) (x : Kd), σ.seen[n]? = some σ.round → its[n]? = some x → 2 ≤ x.1 → (n, mk n) ∈ σ.next
  pass : ∀ (n : Nat) (x : Kd), σ.seen[n]? = some σ.round → its[n]? = some x → zero (beI l f i) (enI l f i) x → ¬ e n → σ.seen[n + 1]? = some σ.round ∧ mk n ≤ mk (n + 1)
  done : σ.seen[its.length]? = some σ.round → σ.fo = true ∧ σ.bf = mk its.length ∧ σ.bt = psI l f i
  next : ∀ u ∈ σ.next, m ≤ u.2 ∧ Reach its l f t i u.1 u.2
  rise : σ.next.Pairwise (fun a b => b.2 ≤ a.2)
/-- A match is no worse than another one. -/
def BetG (σ τ : Rs) : Prop := σ.fo = true → τ.fo = true ∧ (σ.bf < τ.bf ∨ (τ.bf = σ.bf ∧ σ.bt ≤ τ.bt))
theorem BetG.refl (σ : Rs) : BetG σ σ := fun h => ⟨h, .inr ⟨rfl, Nat.le_refl _⟩⟩
theorem BetG.trans {a b c : Rs} (h : BetG a b) (k : BetG b c) : BetG a c := fun hf => by
  obtain ⟨h1, h2⟩ := h hf
  obtain ⟨k1, k2⟩ := k h1
  exact ⟨k1, by omega⟩
/-- What come leaves: all that is reached from there without a character is marked. -/
theorem come_midG {i p : Nat} : ∀ (k n : Nat) (σ : Rs) (mk : Nat → Nat) (m : Nat) (e : Nat → Prop), its.length + 1 - n ≤ k → n ≤ its.length → p ≤ m → MidG its l f t i σ mk m e → Reach its l f t i n p → (σ.fo = true → σ.bf ≤ p) → σ.bt ≤ psI l f i →
    (∀ j, e j → j + 1 = n ∧ mk j = p) →
    ∃ mk', MidG its l f t i (comeF its p k n σ) mk' p (fun _ => False) ∧ (comeF its p k n σ).seen[n]? = some σ.round ∧ p ≤ mk' n ∧ (∀ j, σ.seen[j]? = some σ.round → (comeF its p k n σ).seen[j]? = some σ.round ∧ mk' j = mk j) ∧ BetG σ (comeF its p k n σ) ∧ (comeF its p k n σ).bt ≤ psI l f i
  | 0, n, σ, mk, m, e, hk, hn, _, _, _, _, _, _ => by omega
  | k + 1, n, σ, mk, m, e, hk, hn, hmp, h, hr, hb, hbt, he => by
    have hnl : n < σ.seen.length := by rw [h.len]; omega
    unfold comeF
    by_cases hs : σ.seen[n]? = some σ.round
    · rw [if_pos hs]
      refine ⟨mk, ⟨h.len, h.low, h.loc, h.be, h.en, fun j hj => ⟨Nat.le_trans hmp (h.reach j hj).1, (h.reach j hj).2⟩, h.wait, fun j x hj hx hz _ => ?_, h.done, fun u hu => ⟨Nat.le_trans hmp (h.next u hu).1, (h.next u hu).2⟩, h.rise⟩, hs, Nat.le_trans hmp (h.reach n hs).1, fun j hj => ⟨hj, rfl⟩, BetG.refl _, hbt⟩
      by_cases hej : e j
      · obtain ⟨rfl, h2⟩ := he j hej
        exact ⟨hs, by rw [h2]; exact Nat.le_trans hmp (h.reach _ hs).1⟩
      · exact h.pass j x hj hx hz hej
    · rw [if_neg hs]
      -- the item is marked
      have hmk : ∀ j, σ.seen[j]? = some σ.round → (if j = n then p else mk j) = mk j := fun j hj => if_neg (show ¬ j = n from fun h1 => hs (by rw [← h1]; exact hj))
      have base : ∀ (σ' : Rs), σ'.seen = σ.seen.set n σ.round → σ'.round = σ.round → σ'.loc = σ.loc → σ'.be = σ.be → σ'.en = σ.en →
          (∀ u ∈ σ.next, u ∈ σ'.next) → (∀ u ∈ σ'.next, p ≤ u.2 ∧ Reach its l f t i u.1 u.2) → σ'.next.Pairwise (fun a b => b.2 ≤ a.2) → (∀ x, its[n]? = some x → 2 ≤ x.1 → (n, p) ∈ σ'.next) →
          (n = its.length → σ'.fo = true ∧ σ'.bf = p ∧ σ'.bt = psI l f i) → (n ≠ its.length → σ'.fo = σ.fo ∧ σ'.bf = σ.bf ∧ σ'.bt = σ.bt) →
          MidG its l f t i σ' (fun j => if j = n then p else mk j) p (fun j => j = n) := fun σ' h1 h2 h3 h4 h5 h6 h7 h8 h9 h10 h11 => by
        have hsn : ∀ j, σ'.seen[j]? = some σ'.round ↔ (j = n ∨ σ.seen[j]? = some σ.round) := fun j => by rw [h1, h2]; exact seen_set hnl
        refine ⟨by rw [h1, List.length_set, h.len], fun j r hj => ?_, by rw [h3, h.loc], by rw [h4, h.be], by rw [h5, h.en], fun j hj => ?_, fun j x hj hx hx2 => ?_, fun j x hj hx hz hej => ?_, fun hj => ?_, h7, h8⟩
        · rw [h1, List.getElem?_set] at hj
          rw [h2]
          by_cases e1 : n = j
          · rw [if_pos e1, if_pos hnl] at hj
            obtain rfl := Option.some.inj hj
            exact Nat.le_refl _
          · rw [if_neg e1] at hj
            exact h.low j r hj
        · rcases (hsn j).1 hj with rfl | hj2
          · simp only [if_true]; exact ⟨Nat.le_refl _, hr⟩
          · rw [hmk j hj2]; exact ⟨Nat.le_trans hmp (h.reach j hj2).1, (h.reach j hj2).2⟩
        · rcases (hsn j).1 hj with rfl | hj2
          · simp only [if_true]; exact h9 x hx hx2
          · rw [hmk j hj2]; exact h6 _ (h.wait j x hj2 hx hx2)
        · have hj2 : σ.seen[j]? = some σ.round := ((hsn j).1 hj).resolve_left hej
          rw [hmk j hj2]
          by_cases he2 : e j
          · obtain ⟨e1, e2⟩ := he j he2
            rw [e1]
            simp only [if_true]
            exact ⟨(hsn n).2 (.inl rfl), by omega⟩
          · obtain ⟨q1, q2⟩ := h.pass j x hj2 hx hz he2
            rw [hmk _ q1]
            exact ⟨(hsn _).2 (.inr q1), q2⟩
        · by_cases hne : n = its.length
          · obtain ⟨q1, q2, q3⟩ := h10 hne
            rw [if_pos hne.symm]
            exact ⟨q1, q2, q3⟩
          · have hj2 := ((hsn _).1 hj).resolve_left (fun h0 => hne h0.symm)
            obtain ⟨q1, q2, q3⟩ := h.done hj2
            obtain ⟨r1, r2, r3⟩ := h11 hne
            rw [if_neg (fun h0 => hne h0.symm)]
            exact ⟨by rw [r1]; exact q1, by rw [r2]; exact q2, by rw [r3]; exact q3⟩
      have hsn0 : (σ.seen.set n σ.round)[n]? = some σ.round := (seen_set hnl).2 (.inl rfl)
      have hkeep : ∀ j, σ.seen[j]? = some σ.round → (σ.seen.set n σ.round)[j]? = some σ.round := fun j hj => (seen_set hnl).2 (.inr hj)
      have hnx : ∀ u ∈ σ.next, p ≤ u.2 ∧ Reach its l f t i u.1 u.2 := fun u hu => ⟨Nat.le_trans hmp (h.next u hu).1, (h.next u hu).2⟩
      have hnp : ∀ u ∈ σ.next ++ [(n, p)], p ≤ u.2 ∧ Reach its l f t i u.1 u.2 := fun u hu => by
        rcases List.mem_append.1 hu with h1 | h1
        · exact hnx u h1
        · rw [List.mem_singleton.1 h1]; exact ⟨Nat.le_refl _, hr⟩
      have hrp : (σ.next ++ [(n, p)]).Pairwise (fun a b => b.2 ≤ a.2) := by
        rw [List.pairwise_append]
        refine ⟨h.rise, by simp, fun a ha b hb => ?_⟩
        rw [List.mem_singleton.1 hb]
        exact (hnx a ha).1
      have fin : ∀ (σ' : Rs) (x : Kd), its[n]? = some x → ¬ zero (beI l f i) (enI l f i) x → MidG its l f t i σ' (fun j => if j = n then p else mk j) p (fun j => j = n) → MidG its l f t i σ' (fun j => if j = n then p else mk j) p (fun _ => False) := fun σ' x hx hz hM =>
        ⟨hM.len, hM.low, hM.loc, hM.be, hM.en, hM.reach, hM.wait, fun j y hj hy hzy _ => by
          by_cases hjn : j = n
          · subst hjn
            rw [hx] at hy
            obtain rfl := Option.some.inj hy
            exact absurd hzy hz
          · exact hM.pass j y hj hy hzy hjn, hM.done, hM.next, hM.rise⟩
      have on : ∀ (σ' : Rs), σ'.seen = σ.seen.set n σ.round → σ'.round = σ.round → MidG its l f t i σ' (fun j => if j = n then p else mk j) p (fun j => j = n) → Reach its l f t i (n + 1) p → n + 1 ≤ its.length → (σ'.fo = true → σ'.bf ≤ p) → σ'.bt ≤ psI l f i → BetG σ σ' →
          ∃ mk', MidG its l f t i (comeF its p k (n + 1) σ') mk' p (fun _ => False) ∧ (comeF its p k (n + 1) σ').seen[n]? = some σ.round ∧ p ≤ mk' n ∧ (∀ j, σ.seen[j]? = some σ.round → (comeF its p k (n + 1) σ').seen[j]? = some σ.round ∧ mk' j = mk j) ∧ BetG σ (comeF its p k (n + 1) σ') ∧ (comeF its p k (n + 1) σ').bt ≤ psI l f i := fun σ' h1 h2 hM hr2 hn2 hb2 hbt2 hbet => by
        obtain ⟨mk', r1, r2, r3, r4, r5, r6⟩ := come_midG k (n + 1) σ' _ p (fun j => j = n) (by omega) hn2 (Nat.le_refl _) hM hr2 hb2 hbt2 (fun j hj => ⟨by omega, if_pos hj⟩)
        rw [h2] at r2 r4
        rw [h1] at r4
        obtain ⟨s1, s2⟩ := r4 n hsn0
        rw [if_pos rfl] at s2
        refine ⟨mk', r1, s1, by omega, fun j hj => ?_, hbet.trans r5, r6⟩
        obtain ⟨u1, u2⟩ := r4 j (hkeep j hj)
        exact ⟨u1, u2.trans (hmk j hj)⟩
      cases hx : its[n]? with
      | none =>
        have hnl2 : n = its.length := by have := List.getElem?_eq_none_iff.1 hx; omega
        have hM := base { σ with seen := σ.seen.set n σ.round, bf := p, bt := σ.loc, fo := true } rfl rfl rfl rfl rfl (fun u hu => hu) hnx h.rise (fun x hx2 => by rw [hx] at hx2; cases hx2) (fun _ => ⟨rfl, rfl, h.loc⟩) (fun h0 => absurd hnl2 h0)
        refine ⟨_, ⟨hM.len, hM.low, hM.loc, hM.be, hM.en, hM.reach, hM.wait, fun j y hj hy hzy _ => ?_, hM.done, hM.next, hM.rise⟩, hsn0, by rw [if_pos rfl]; exact Nat.le_refl _, fun j hj => ⟨hkeep j hj, hmk j hj⟩, fun hf => ⟨rfl, ?_⟩, Nat.le_of_eq h.loc⟩
        · by_cases hjn : j = n
          · subst hjn; rw [hx] at hy; cases hy
          · exact hM.pass j y hj hy hzy hjn
        · have h1 := hb hf
          have h2 := h.loc
          show σ.bf < p ∨ (p = σ.bf ∧ σ.bt ≤ σ.loc)
          omega
      | some x =>
        have hn2 : n + 1 ≤ its.length := (List.getElem?_eq_some_iff.1 hx).1
        have hnn : n ≠ its.length := by omega
        have hM0 : 2 ≤ x.1 ∨ x.1 < 2 := by omega
        have mark := fun (h2 : x.1 < 2) => base { σ with seen := σ.seen.set n σ.round } rfl rfl rfl rfl rfl (fun u hu => hu) hnx h.rise (fun y hy hy2 => by rw [hx] at hy; obtain rfl := Option.some.inj hy; omega) (fun h0 => absurd h0 hnn) (fun _ => ⟨rfl, rfl, rfl⟩)
        have push := base { σ with seen := σ.seen.set n σ.round, next := σ.next ++ [(n, p)] } rfl rfl rfl rfl rfl (fun u hu => List.mem_append_left _ hu) hnp hrp (fun y hy hy2 => List.mem_append_right _ (List.mem_singleton.2 rfl)) (fun h0 => absurd h0 hnn) (fun _ => ⟨rfl, rfl, rfl⟩)
        have stay : ∀ (σ' : Rs), σ'.seen = σ.seen.set n σ.round → σ'.fo = σ.fo → σ'.bf = σ.bf → σ'.bt = σ.bt → MidG its l f t i σ' (fun j => if j = n then p else mk j) p (fun _ => False) →
            ∃ mk', MidG its l f t i σ' mk' p (fun _ => False) ∧ σ'.seen[n]? = some σ.round ∧ p ≤ mk' n ∧ (∀ j, σ.seen[j]? = some σ.round → σ'.seen[j]? = some σ.round ∧ mk' j = mk j) ∧ BetG σ σ' ∧ σ'.bt ≤ psI l f i := fun σ' h1 h2 h3 h4 hM => by
          refine ⟨_, hM, by rw [h1]; exact hsn0, by rw [if_pos rfl]; exact Nat.le_refl _, fun j hj => ⟨by rw [h1]; exact hkeep j hj, hmk j hj⟩, fun hf => ⟨by rw [h2]; exact hf, .inr ⟨h3, by rw [h4]; exact Nat.le_refl _⟩⟩, by rw [h4]; exact hbt⟩
        simp only
        by_cases h0 : x.1 = 0
        · rw [if_pos h0]
          by_cases hbe : σ.be = true
          · rw [if_pos hbe]
            exact on { σ with seen := σ.seen.set n σ.round } rfl rfl (mark (by omega)) (.pass i n p x hr hx (.inl ⟨h0, by rw [← h.be]; exact hbe⟩)) hn2 hb hbt (BetG.refl _)
          · rw [if_neg hbe]
            refine stay _ rfl rfl rfl rfl (fin _ x hx (fun hz => ?_) (mark (by omega)))
            have h1 := h.be
            rcases hz with ⟨_, h2⟩ | ⟨h2, _⟩ | h2
            · exact hbe (h1.trans h2)
            · omega
            · omega
        · rw [if_neg h0]
          by_cases h1 : x.1 = 1
          · rw [if_pos h1]
            by_cases hen : σ.en = true
            · rw [if_pos hen]
              exact on { σ with seen := σ.seen.set n σ.round } rfl rfl (mark (by omega)) (.pass i n p x hr hx (.inr (.inl ⟨h1, by rw [← h.en]; exact hen⟩))) hn2 hb hbt (BetG.refl _)
            · rw [if_neg hen]
              refine stay _ rfl rfl rfl rfl (fin _ x hx (fun hz => ?_) (mark (by omega)))
              have h3 := h.en
              rcases hz with ⟨h2, _⟩ | ⟨_, h2⟩ | h2
              · omega
              · exact hen (h3.trans h2)
              · omega
          · rw [if_neg h1]
            by_cases h2 : x.1 = 2
            · rw [if_pos h2]
              refine stay _ rfl rfl rfl rfl (fin _ x hx (fun hz => ?_) push)
              rcases hz with ⟨h3, _⟩ | ⟨h3, _⟩ | h3 <;> omega
            · rw [if_neg h2]
              exact on { σ with seen := σ.seen.set n σ.round, next := σ.next ++ [(n, p)] } rfl rfl push (.pass i n p x hr hx (.inr (.inr (by omega)))) hn2 hb hbt (BetG.refl _)
theorem MidG.up {i m M : Nat} {σ : Rs} {mk : Nat → Nat} {e : Nat → Prop} (h : MidG its l f t i σ mk m e) (hm : M ≤ m) : MidG its l f t i σ mk M e :=
  ⟨h.len, h.low, h.loc, h.be, h.en, fun n hn => ⟨Nat.le_trans hm (h.reach n hn).1, (h.reach n hn).2⟩, h.wait, h.pass, h.done, fun u hu => ⟨Nat.le_trans hm (h.next u hu).1, (h.next u hu).2⟩, h.rise⟩
/-- A match that is not worse goes on. -/
theorem step_midG {i m : Nat} {σ : Rs} {mk : Nat → Nat} {u : Nat × Nat} {x : Kd} {c : Ch} (h : MidG its l f t i σ mk m (fun _ => False)) (hbt : σ.bt ≤ psI l f i) (hm : u.2 ≤ m) (hx : its[u.1]? = some x) (hr : x.2 c = true → Reach its l f t i (tgt u.1 x) u.2) :
    ∃ mk', MidG its l f t i (stepF true its c u σ) mk' u.2 (fun _ => False) ∧ (stepF true its c u σ).bt ≤ psI l f i ∧ BetG σ (stepF true its c u σ) ∧ (∀ j, σ.seen[j]? = some σ.round → (stepF true its c u σ).seen[j]? = some σ.round ∧ mk' j = mk j) ∧
      (x.2 c = true → ((stepF true its c u σ).fo = true ∧ u.2 < (stepF true its c u σ).bf) ∨ ((stepF true its c u σ).seen[tgt u.1 x]? = some σ.round ∧ u.2 ≤ mk' (tgt u.1 x))) := by
  have hn : u.1 + 1 ≤ its.length := (List.getElem?_eq_some_iff.1 hx).1
  have hsame : stepF true its c u σ = if (worseV true σ u.2 || !x.2 c) = true then σ else comeF its u.2 (its.length + 1 - tgt u.1 x) (tgt u.1 x) σ := by
    unfold stepF tgt come
    rw [hx]
    simp only
    split
    · rfl
    · split <;> rfl
  rw [hsame]
  by_cases hw : worseV true σ u.2 = true
  · rw [if_pos (by rw [hw]; rfl)]
    refine ⟨mk, h.up hm, hbt, BetG.refl _, fun j hj => ⟨hj, rfl⟩, fun _ => .inl ?_⟩
    unfold worseV at hw
    simp at hw
    exact hw
  · have hw2 : worseV true σ u.2 = false := by simpa using hw
    by_cases hc : x.2 c = true
    · rw [if_neg (by rw [hw2, hc]; decide)]
      have hnw : σ.fo = true → σ.bf ≤ u.2 := fun hf => by
        unfold worseV at hw2
        rw [hf] at hw2
        simp at hw2
        exact hw2
      have ht : tgt u.1 x ≤ its.length := by unfold tgt; split <;> omega
      obtain ⟨mk', r1, r2, r3, r4, r5, r6⟩ := come_midG (its.length + 1 - tgt u.1 x) (tgt u.1 x) σ mk m (fun _ => False) (Nat.le_refl _) ht hm h (hr hc) hnw hbt (fun j hj => hj.elim)
      exact ⟨mk', r1, r6, r5, r4, fun _ => .inr ⟨r2, r3⟩⟩
    · have hc2 : x.2 c = false := by simpa using hc
      rw [if_pos (by rw [hw2, hc2]; rfl)]
      exact ⟨mk, h.up hm, hbt, BetG.refl _, fun j hj => ⟨hj, rfl⟩, fun h1 => absurd h1 hc⟩
theorem steps_midG {i : Nat} {c : Ch} : ∀ (ts : List (Nat × Nat)) (σ : Rs) (mk : Nat → Nat) (m M : Nat), MidG its l f t i σ mk m (fun _ => False) → σ.bt ≤ psI l f i → ts.Pairwise (fun a b => b.2 ≤ a.2) → M ≤ m → (∀ u ∈ ts, u.2 ≤ m ∧ M ≤ u.2 ∧ ∃ x, its[u.1]? = some x ∧ (x.2 c = true → Reach its l f t i (tgt u.1 x) u.2)) →
    ∃ mk', MidG its l f t i (stepsF true its c ts σ) mk' M (fun _ => False) ∧ (stepsF true its c ts σ).bt ≤ psI l f i ∧ BetG σ (stepsF true its c ts σ) ∧ (stepsF true its c ts σ).round = σ.round ∧ (∀ j, σ.seen[j]? = some σ.round → (stepsF true its c ts σ).seen[j]? = some σ.round ∧ mk' j = mk j) ∧
      ∀ u ∈ ts, ∀ x, its[u.1]? = some x → x.2 c = true → ((stepsF true its c ts σ).fo = true ∧ u.2 < (stepsF true its c ts σ).bf) ∨ ((stepsF true its c ts σ).seen[tgt u.1 x]? = some σ.round ∧ u.2 ≤ mk' (tgt u.1 x))
  | [], σ, mk, m, M, h, hbt, _, hmM, _ => ⟨mk, h.up hmM, hbt, BetG.refl _, rfl, fun j hj => ⟨hj, rfl⟩, fun u hu => by cases hu⟩
  | u :: ts, σ, mk, m, M, h, hbt, hp, hmM, hu => by
    obtain ⟨h1, h2, x, hx, hr⟩ := hu u (List.mem_cons_self ..)
    obtain ⟨mk1, a1, a2, a3, a4, a5⟩ := step_midG (c := c) h hbt h1 hx hr
    have hrd : (stepF true its c u σ).round = σ.round := stepF_keeps.2.1
    obtain ⟨mk2, b1, b2, b3, b4, b5, b6⟩ := steps_midG (c := c) ts (stepF true its c u σ) mk1 u.2 M a1 a2 (List.pairwise_cons.1 hp).2 h2 (fun v hv => ⟨(List.pairwise_cons.1 hp).1 v hv, (hu v (List.mem_cons_of_mem _ hv)).2⟩)
    rw [hrd] at b4 b5 b6
    refine ⟨mk2, b1, b2, a3.trans b3, b4, fun j hj => ?_, fun v hv y hy hc => ?_⟩
    · obtain ⟨q1, q2⟩ := a4 j hj
      obtain ⟨q3, q4⟩ := b5 j q1
      exact ⟨q3, q4.trans q2⟩
    · rcases List.mem_cons.1 hv with rfl | hv
      · rw [hx] at hy
        obtain rfl := Option.some.inj hy
        rcases a5 hc with ⟨q1, q2⟩ | ⟨q1, q2⟩
        · obtain ⟨q3, q4⟩ := b3 q1
          exact .inl ⟨q3, by show v.2 < (stepsF true its c ts (stepF true its c v σ)).bf; omega⟩
        · obtain ⟨q3, q4⟩ := b5 _ q1
          exact .inr ⟨q3, by rw [q4]; exact q2⟩
      · exact b6 v hv y hy hc
/-- What holds ahead of the i-th round. -/
structure PreG (its : List Kd) (l : List UInt8) (f : Nat) (t : Int) (i : Nat) (σ : Rs) : Prop where
  ok : σ.Ok0 its l.length
  low : ∀ (n r : Nat), σ.seen[n]? = some r → r ≤ σ.round
  now : ∀ u ∈ σ.now, u.2 ≤ psI l f i ∧ ∃ x, its[u.1]? = some x ∧ (x.2 (ahI l f i) = true → Reach its l f t i (tgt u.1 x) u.2)
  rise : σ.now.Pairwise (fun a b => b.2 ≤ a.2)
  best : σ.fo = true → ∃ j, Reach its l f t j its.length σ.bf ∧ psI l f j = σ.bt
  cmp : ∀ i' n q x, i = i' + 1 → Reach its l f t i' n q → its[n]? = some x → 2 ≤ x.1 → (σ.fo = true ∧ q < σ.bf) ∨ ∃ q', q ≤ q' ∧ (n, q') ∈ σ.now
  top : ∀ j q, j < i → Reach its l f t j its.length q → σ.fo = true ∧ (q < σ.bf ∨ (σ.bf = q ∧ psI l f j ≤ σ.bt))
  bt : σ.bt ≤ psI l f i
  val : ∀ j, j < i → wdI l f j ≠ 0
/-- What holds behind it. -/
structure BehG (its : List Kd) (l : List UInt8) (f : Nat) (t : Int) (i : Nat) (σ : Rs) : Prop where
  ok : σ.Ok0 its l.length
  low : ∀ (n r : Nat), σ.seen[n]? = some r → r ≤ σ.round
  now : ∀ u ∈ σ.now, u.2 ≤ psI l f i ∧ Reach its l f t i u.1 u.2
  rise : σ.now.Pairwise (fun a b => b.2 ≤ a.2)
  best : σ.fo = true → ∃ j, Reach its l f t j its.length σ.bf ∧ psI l f j = σ.bt
  cmp : ∀ n q x, Reach its l f t i n q → its[n]? = some x → 2 ≤ x.1 → (σ.fo = true ∧ q < σ.bf) ∨ ∃ q', q ≤ q' ∧ (n, q') ∈ σ.now
  top : ∀ j q, j ≤ i → Reach its l f t j its.length q → σ.fo = true ∧ (q < σ.bf ∨ (σ.bf = q ∧ psI l f j ≤ σ.bt))
  bt : σ.bt ≤ psI l f i

theorem Reach.from_le {i n q : Nat} (h : Reach its l f t i n q) : q ≤ psI l f i := by
  induction h with
  | start i _ _ => exact Nat.le_refl _
  | pass i n q x _ _ _ ih => exact ih
  | one i n q x _ _ _ _ _ _ ih => exact Nat.le_trans ih (ps_up (by omega))
  | more i n q x _ _ _ _ _ ih => exact Nat.le_trans ih (ps_up (by omega))
theorem round_invG {i : Nat} {σ : Rs} (h : PreG its l f t i σ) (hp : psI l f i ≤ l.length) : BehG its l f t i (roundF true its l.length t (psI l f i) (ahI l f i) (ch1 (l.drop (psI l f i))) σ) := by
  have hok := roundF_ok (g := true) (n := l.length) (t := t) (a := ahI l f i) (c := ch1 (l.drop (psI l f i))) h.ok hp
  rw [roundF_eq] at hok ⊢
  obtain ⟨σ1, hσ1⟩ : ∃ s, s = arriveF l.length (psI l f i) (ahI l f i) (ch1 (l.drop (psI l f i))) σ := ⟨_, rfl⟩
  rw [← hσ1] at hok ⊢
  have hno : ∀ n : Nat, ¬ σ1.seen[n]? = some σ1.round := fun n hn => by
    rw [hσ1] at hn
    have h1 := h.low n (σ.round + 1) hn
    omega
  have hM1 : MidG its l f t i σ1 (fun _ => 0) (psI l f i) (fun _ => False) := by
    refine ⟨by rw [hσ1]; exact h.ok.len, fun n r hn => ?_, by rw [hσ1]; rfl, by rw [hσ1]; rfl, by rw [hσ1]; rfl, fun n hn => absurd hn (hno n), fun n x hn => absurd hn (hno n), fun n x hn => absurd hn (hno n), fun hn => absurd hn (hno _), fun u hu => ?_, ?_⟩
    · rw [hσ1] at hn ⊢
      have h1 := h.low n r hn
      show r ≤ σ.round + 1
      omega
    · rw [hσ1] at hu; cases hu
    · rw [hσ1]; exact List.Pairwise.nil
  have en : σ1.now = σ.now := by rw [hσ1]; rfl
  have ebf : σ1.bf = σ.bf ∧ σ1.bt = σ.bt ∧ σ1.fo = σ.fo := by rw [hσ1]; exact ⟨rfl, rfl, rfl⟩
  -- a match begins here
  have key : ∃ mk2, MidG its l f t i (mid2 true its t σ1) mk2 (psI l f i) (fun _ => False) ∧ (mid2 true its t σ1).bt ≤ psI l f i ∧ BetG σ1 (mid2 true its t σ1) ∧ (mid2 true its t σ1).round = σ1.round ∧ (mid2 true its t σ1).now = σ1.now ∧
      ((psI l f i : Int) ≤ t → ((mid2 true its t σ1).fo = true ∧ psI l f i < (mid2 true its t σ1).bf) ∨ ((mid2 true its t σ1).seen[0]? = some σ1.round ∧ psI l f i ≤ mk2 0)) ∧
      ((mid2 true its t σ1).seen[its.length]? = some σ1.round ∨ ((mid2 true its t σ1).fo = σ1.fo ∧ (mid2 true its t σ1).bf = σ1.bf ∧ (mid2 true its t σ1).bt = σ1.bt)) := by
    have hbt1 : σ1.bt ≤ psI l f i := by rw [ebf.2.1]; exact h.bt
    have e4 : mid2 true its t σ1 = if (decide ((psI l f i : Int) ≤ t) && !worseV true σ1 (psI l f i)) = true then comeF its (psI l f i) (its.length + 1 - 0) 0 σ1 else σ1 := by
      show startF true its t σ1 = _
      unfold startF come
      rw [hM1.loc]
    rw [e4]
    by_cases hc : (decide ((psI l f i : Int) ≤ t) && !worseV true σ1 (psI l f i)) = true
    · rw [if_pos hc]
      simp only [Bool.and_eq_true, decide_eq_true_eq, Bool.not_eq_true'] at hc
      obtain ⟨hc1, hc2⟩ := hc
      have hnw : σ1.fo = true → σ1.bf ≤ psI l f i := fun hf => by
        unfold worseV at hc2
        rw [hf] at hc2
        simp at hc2
        exact hc2
      obtain ⟨mk4, r1, r2, r3, r4, r5, r6⟩ := come_midG (its.length + 1 - 0) 0 σ1 (fun _ => 0) (psI l f i) (fun _ => False) (Nat.le_refl _) (Nat.zero_le _) (Nat.le_refl _) hM1 (.start i h.val hc1) hnw hbt1 (fun j hj => hj.elim)
      exact ⟨mk4, r1, r6, r5, (comeF_keeps _ _ _).2.1, (comeF_keeps _ _ _).1, fun _ => .inr ⟨r2, r3⟩, (comeF_best _ _ _ (Nat.zero_le _) hM1.len).2⟩
    · rw [if_neg hc]
      refine ⟨_, hM1, hbt1, BetG.refl _, rfl, rfl, fun ht => .inl ?_, .inr ⟨rfl, rfl, rfl⟩⟩
      have h1 : worseV true σ1 (psI l f i) = true := by
        simp only [Bool.and_eq_true, decide_eq_true_eq, Bool.not_eq_true'] at hc
        cases hw : worseV true σ1 (psI l f i) with
        | true => rfl
        | false => exact absurd ⟨ht, hw⟩ hc
      unfold worseV at h1
      simp at h1
      exact h1
  obtain ⟨mk2, c1, c2, c3, c4, c0, c6, c7⟩ := key
  obtain ⟨σ2, hσ2⟩ : ∃ s, s = mid2 true its t σ1 := ⟨_, rfl⟩
  rw [← hσ2] at c1 c2 c3 c4 c0 c6 c7 hok ⊢
  rw [c0, en] at hok ⊢
  obtain ⟨mk3, a1, a2, a3, a4, a5, a6⟩ := steps_midG (c := ahI l f i) σ.now σ2 _ (psI l f i) 0 c1 c2 h.rise (Nat.zero_le _) (fun u hu => ⟨(h.now u hu).1, Nat.zero_le _, (h.now u hu).2⟩)
  obtain ⟨b1, b2⟩ := stepsF_best (g := true) (c := ahI l f i) σ.now σ2 c1.len
  obtain ⟨σ3, hσ3⟩ : ∃ s, s = stepsF true its (ahI l f i) σ.now σ2 := ⟨_, rfl⟩
  rw [← hσ3] at a1 a2 a3 a4 a5 a6 b1 b2 hok ⊢
  have e4 : mid4 true its t σ3 = σ3 := rfl
  rw [e4] at hok ⊢
  have hbet : BetG σ σ3 := fun hf => by
    have h1 := (c3.trans a3) (by rw [ebf.2.2]; exact hf)
    rw [ebf.1, ebf.2.1] at h1
    exact h1
  have claim : ∀ i0 n q, Reach its l f t i0 n q → i0 = i → (σ3.fo = true ∧ q < σ3.bf) ∨ (σ3.seen[n]? = some σ3.round ∧ q ≤ mk3 n) := by
    have go : ∀ (n q : Nat) (x : Kd) (i' : Nat), Reach its l f t i' n q → i' + 1 = i → its[n]? = some x → 2 ≤ x.1 → x.2 (ahI l f i) = true → (σ3.fo = true ∧ q < σ3.bf) ∨ (σ3.seen[tgt n x]? = some σ3.round ∧ q ≤ mk3 (tgt n x)) := fun n q x i' hr hi hx h2 hxa => by
      rcases h.cmp i' n q x hi.symm hr hx h2 with ⟨q1, q2⟩ | ⟨q', q1, q2⟩
      · obtain ⟨s1, s2⟩ := hbet q1
        exact .inl ⟨s1, by omega⟩
      · rcases a6 (n, q') q2 x hx hxa with ⟨s1, s2⟩ | ⟨s1, s2⟩
        · refine .inl ⟨s1, ?_⟩
          have s2' : q' < σ3.bf := s2
          omega
        · rw [← a4] at s1
          refine .inr ⟨s1, ?_⟩
          have s2' : q' ≤ mk3 (tgt n x) := s2
          omega
    intro i0 n q hr
    induction hr with
    | start i0 hv ht =>
      rintro rfl
      rcases c6 ht with ⟨h1, h2⟩ | ⟨h1, h2⟩
      · obtain ⟨u1, u2⟩ := a3 h1
        exact .inl ⟨u1, by omega⟩
      · rw [← c4] at h1
        obtain ⟨u1, u2⟩ := a5 _ h1
        exact .inr ⟨by rw [a4]; exact u1, by rw [u2]; exact h2⟩
    | pass i0 n q x _ hx hz ih =>
      rintro rfl
      rcases ih rfl with h1 | ⟨h1, h2⟩
      · exact .inl h1
      · obtain ⟨k1, k2⟩ := a1.pass n x h1 hx hz (fun h => h)
        exact .inr ⟨k1, by omega⟩
    | one i0 n q x hr hx h2 h4 hw hc ih =>
      intro hi
      have k := go n q x i0 hr hi hx h2 (by rw [← hi]; exact hc)
      unfold tgt at k
      rwa [if_neg h4] at k
    | more i0 n q x hr hx h4 hw hc ih =>
      intro hi
      have k := go n q x i0 hr hi hx (by omega) (by rw [← hi]; exact hc)
      unfold tgt at k
      rwa [if_pos h4] at k
  refine ⟨hok, fun n r hn => a1.low n r hn, fun u hu => ⟨(a1.next u hu).2.from_le, (a1.next u hu).2⟩, a1.rise, fun hf => ?_, fun n q x hr hx h2 => ?_, fun j q hj hr => ?_, a2⟩
  · show ∃ j, Reach its l f t j its.length σ3.bf ∧ psI l f j = σ3.bt
    by_cases hs : σ3.seen[its.length]? = some σ3.round
    · obtain ⟨_, d2, d3⟩ := a1.done hs
      exact ⟨i, by rw [d2]; exact (a1.reach _ hs).2, d3.symm⟩
    · rcases b2 with h1 | ⟨g1, g2, g3⟩
      · exact absurd (by rw [a4]; exact h1) hs
      · rcases c7 with h1 | ⟨d1, d2, d3⟩
        · rw [← c4] at h1
          exact absurd (by rw [a4]; exact (a5 _ h1).1) hs
        · have hf' : σ3.fo = true := hf
          obtain ⟨j, k1, k2⟩ := h.best (by rw [← ebf.2.2, ← d1, ← g1]; exact hf')
          exact ⟨j, by rw [g2, d2, ebf.1]; exact k1, by rw [g3, d3, ebf.2.1]; exact k2⟩
  · rcases claim i n q hr rfl with h1 | ⟨h1, h3⟩
    · exact .inl h1
    · exact .inr ⟨mk3 n, h3, a1.wait n x h1 hx h2⟩
  · rcases Nat.lt_or_eq_of_le hj with hlt | rfl
    · obtain ⟨k1, k2⟩ := h.top j q hlt hr
      obtain ⟨s1, s2⟩ := hbet k1
      exact ⟨s1, by show q < σ3.bf ∨ (σ3.bf = q ∧ psI l f j ≤ σ3.bt); omega⟩
    · rcases claim j its.length q hr rfl with ⟨h1, h3⟩ | ⟨h1, h3⟩
      · exact ⟨h1, .inl h3⟩
      · obtain ⟨d1, d2, d3⟩ := a1.done h1
        exact ⟨d1, by show q < σ3.bf ∨ (σ3.bf = q ∧ psI l f j ≤ σ3.bt); omega⟩
/-- The search is over: nothing better can come. -/
theorem lateG {i : Nat} {σ : Rs} (h : BehG its l f t i σ) (hw : wdI l f i ≠ 0) (hn : σ.now = []) (hs : t ≤ (psI l f i : Int) ∨ (σ.fo = true ∧ psI l f i + 1 < σ.bf)) : ∀ j n q, Reach its l f t j n q → i < j → σ.fo = true ∧ q < σ.bf := by
  intro j n q hr
  have st : ∀ (i0 n q : Nat) (x : Kd), Reach its l f t i0 n q → its[n]? = some x → 2 ≤ x.1 → i < i0 + 1 → (i < i0 → σ.fo = true ∧ q < σ.bf) → σ.fo = true ∧ q < σ.bf := fun i0 n q x hr hx h2 hi ih => by
    by_cases e : i < i0
    · exact ih e
    · obtain rfl : i = i0 := by omega
      rcases h.cmp n q x hr hx h2 with h1 | ⟨q', _, h1⟩
      · exact h1
      · rw [hn] at h1; cases h1
  induction hr with
  | start j hv ht =>
    intro hij
    have h1 : psI l f (i + 1) ≤ psI l f j := ps_up hij
    have h2 : psI l f (i + 1) = psI l f i + wdI l f i := rfl
    rcases hs with hs | ⟨hs1, hs2⟩
    · omega
    · obtain ⟨j2, k1, k2⟩ := h.best hs1
      have k3 := k1.from_le
      have k4 := h.bt
      omega
  | pass j n q x _ _ _ ih => exact ih
  | one j n q x hr hx h2 _ _ _ ih => exact fun hij => st j n q x hr hx h2 hij ih
  | more j n q x hr hx h4 _ _ ih => exact fun hij => st j n q x hr hx (by omega) hij ih
/-- What a search leaves: a match that is reached, and no reached one begins ahead of it, or begins with it and ends behind it. -/
def FoundG (its : List Kd) (l : List UInt8) (f : Nat) (t : Int) (τ : Rs) : Prop :=
  (τ.fo = true → ∃ j, Reach its l f t j its.length τ.bf ∧ psI l f j = τ.bt) ∧ (∀ j q, Reach its l f t j its.length q → τ.fo = true ∧ (q < τ.bf ∨ (τ.bf = q ∧ psI l f j ≤ τ.bt))) ∧ ∀ (n r : Nat), τ.seen[n]? = some r → r ≤ τ.round
theorem loop_foundG : ∀ (k i : Nat) (σ : Rs), PreG its l f t i σ → psI l f i ≤ l.length → l.length + 1 - psI l f i ≤ k → FoundG its l f t (loopF true its l t k (psI l f i) (ahI l f i) σ)
  | 0, i, σ, _, hp, hk => by omega
  | k + 1, i, σ, h, hp, hk => by
    have hb := round_invG h hp
    obtain ⟨τ, hτ⟩ : ∃ τ, τ = roundF true its l.length t (psI l f i) (ahI l f i) (ch1 (l.drop (psI l f i))) σ := ⟨_, rfl⟩
    unfold loopF
    rw [← hτ] at hb ⊢
    have hwl : psI l f i + wdI l f i ≤ l.length := by
      unfold wdI cw1
      split
      · exact hp
      · rename_i h0
        have h3 := cw_len _ h0
        rw [List.length_drop] at h3
        have h4 : 0 < (l.drop (psI l f i)).length := List.length_pos_iff.2 h0
        rw [List.length_drop] at h4
        omega
    by_cases hs : stopV true t (psI l f i) (cw1 (l.drop (psI l f i))) τ = true
    · rw [if_pos hs]
      refine ⟨hb.best, fun j q hr => ?_, hb.low⟩
      by_cases hj : j ≤ i
      · exact hb.top j q hj hr
      · have hw : wdI l f i ≠ 0 := hr.val i (by omega)
        have hw2 : cw1 (l.drop (psI l f i)) ≠ 0 := hw
        unfold stopV worseV at hs
        simp only [Bool.or_eq_true, Bool.and_eq_true, decide_eq_true_eq, if_true] at hs
        rcases hs with hs | ⟨hs1, hs2⟩
        · exact absurd hs hw2
        · have h1 := lateG hb hw (List.eq_nil_of_length_eq_zero hs1) hs2 j its.length q hr (by omega)
          exact ⟨h1.1, .inl h1.2⟩
    · rw [if_neg hs]
      have hw : wdI l f i ≠ 0 := fun h0 => by
        have h1 : cw1 (l.drop (psI l f i)) = 0 := h0
        apply hs
        unfold stopV
        rw [h1]
        rfl
      have hw2 : 0 < cw1 (l.drop (psI l f i)) := Nat.pos_of_ne_zero hw
      refine loop_foundG k (i + 1) τ ⟨hb.ok, hb.low, fun u hu => ?_, hb.rise, hb.best, fun i' n q x hi hr hx h2 => ?_, fun j q hj hr => hb.top j q (by omega) hr, Nat.le_trans hb.bt (ps_up (by omega)), fun j hj => ?_⟩ hwl ?_
      · obtain ⟨k1, k2⟩ := hb.now u hu
        refine ⟨Nat.le_trans k1 (ps_up (by omega)), ?_⟩
        obtain ⟨⟨x, hx, h2⟩, _⟩ := hb.ok.thn u hu
        refine ⟨x, hx, fun hc => ?_⟩
        unfold tgt
        by_cases h4 : x.1 = 4
        · rw [if_pos h4]; exact .more i _ _ x k2 hx h4 hw hc
        · rw [if_neg h4]; exact .one i _ _ x k2 hx h2 h4 hw hc
      · obtain rfl : i = i' := by omega
        exact hb.cmp n q x hr hx h2
      · by_cases e : j = i
        · rw [e]; exact hw
        · exact h.val j (by omega)
      · show l.length + 1 - (psI l f i + cw1 (l.drop (psI l f i))) ≤ k
        omega
theorem search_foundG {σ : Rs} (hf : f ≤ l.length) (hl : σ.seen.length = its.length + 1) (hlow : ∀ (n r : Nat), σ.seen[n]? = some r → r ≤ σ.round) : FoundG its l f t (searchF true its l f t σ) := by
  have h0 : PreG its l f t 0 { σ with now := [], bf := 0, bt := 0, fo := false } :=
    ⟨⟨fun u hu => by simp at hu, hl, Nat.zero_le _, Nat.zero_le _⟩, hlow, fun u hu => by simp at hu, List.Pairwise.nil, fun h => by simp at h, fun i' n q x hi => by omega, fun j q hj => by omega, Nat.zero_le _, fun j hj => by omega⟩
  exact loop_foundG (l.length + 1 - f) 0 _ h0 hf (Nat.le_refl _)
end
end Go.Proofs.YtodooppapciegaaGreatDoor
namespace Go.Proofs.YtodooppapciegaaGreatDoor
open Go.RowKit Go.Shelf
set_option linter.unusedVariables false
set_option linter.unusedSimpArgs false
section
variable {its : List Kd} {l : List UInt8} {f : Nat} {t : Int}
/-- What a search for the greatest leaves, item by item: the greatest place up to t from which the items lead anywhere, and from there the longest piece. -/
theorem found_leadG {τ : Rs} (h : FoundG its l f t τ) :
    (τ.fo = true → ∃ i j, psI l f i = τ.bf ∧ (τ.bf : Int) ≤ t ∧ (∀ m, m < i → wdI l f m ≠ 0) ∧ Lead l f its i j ∧ psI l f j = τ.bt) ∧
    (∀ i j, (∀ m, m < i → wdI l f m ≠ 0) → (psI l f i : Int) ≤ t → Lead l f its i j → τ.fo = true ∧ (psI l f i < τ.bf ∨ (τ.bf = psI l f i ∧ psI l f j ≤ τ.bt))) := by
  refine ⟨fun hf => ?_, fun i j hv ht hl => ?_⟩
  · obtain ⟨j, hr, hj⟩ := h.1 hf
    obtain ⟨k, h1, h2, h3, h4⟩ := hr.path j (.fin j)
    exact ⟨k, j, h1, h2, h3, by simpa using h4.lead, hj⟩
  · have hp : Path its l f i 0 j := lead_path its 0 i j (Nat.zero_le _) (by simp) hl
    exact h.2.1 j _ (hp.reach (.start i hv ht))
/-- Behind one search, another one: what was marked stays below the round. -/
theorem next_foundG {σ : Rs} (hf : f ≤ l.length) (hl : σ.seen.length = its.length + 1) (hlow : ∀ (n r : Nat), σ.seen[n]? = some r → r ≤ σ.round) :
    FoundG its l f t (searchF true its l f t σ) ∧ (searchF true its l f t σ).seen.length = its.length + 1 ∧ ∀ (n r : Nat), (searchF true its l f t σ).seen[n]? = some r → r ≤ (searchF true its l f t σ).round := by
  have h := search_foundG (its := its) (l := l) (f := f) (t := t) hf hl hlow
  exact ⟨h, (searchF_all (g := true) (t := t) hf hl).1.len, h.2.2⟩
end
end Go.Proofs.YtodooppapciegaaGreatDoor
namespace Go.Proofs.YtodooppapciegaaGreatDoor
open Go.RowKit Go.Shelf
set_option linter.unusedVariables false
set_option linter.unusedSimpArgs false
section
variable {its : List Kd} {l : List UInt8}
theorem prevB_begins (l : List UInt8) : ∀ p, beginsV l (prevB l p : Int) = true
  | 0 => begins_zero l
  | p + 1 => by
    unfold prevB
    split
    · assumption
    · exact prevB_begins l p
theorem place_of {f : Nat} (hf : f ≤ l.length) (hb : beginsV l (f : Int) = true) : ∃ a, a ≤ (Cs 0 l).length ∧ psI l 0 a = f := by
  obtain ⟨a, h1, h2, _⟩ := pl_from (l := l) (f : Int) (by omega)
  refine ⟨a, h1, h2.trans ?_⟩
  rw [show ((f : Int)).toNat = f by omega, show l.length + 1 - f = (l.length - f) + 1 by omega]
  unfold nextB
  rw [if_pos hb]
theorem last_lead : ∀ (k reach t : Nat) (σ : Rs), t + 1 ≤ k → t ≤ l.length → σ.seen.length = its.length + 1 → (∀ (n r : Nat), σ.seen[n]? = some r → r ≤ σ.round) →
    ((lastF its l k reach t σ).2.2 = true → ∃ i j, i ≤ (Cs 0 l).length ∧ psI l 0 i = (lastF its l k reach t σ).1 ∧ (lastF its l k reach t σ).1 ≤ t ∧ Lead l 0 its i j ∧ psI l 0 j = (lastF its l k reach t σ).2.1) ∧
    (∀ i j, i ≤ (Cs 0 l).length → psI l 0 i ≤ t → Lead l 0 its i j → (lastF its l k reach t σ).2.2 = true ∧ (psI l 0 i < (lastF its l k reach t σ).1 ∨ ((lastF its l k reach t σ).1 = psI l 0 i ∧ psI l 0 j ≤ (lastF its l k reach t σ).2.1)))
  | 0, reach, t, σ, hk, _, _, _ => by omega
  | k + 1, reach, t, σ, hk, ht, hl, hlow => by
    obtain ⟨f, hf⟩ : ∃ f, f = prevB l (t - reach) := ⟨_, rfl⟩
    have hft : f ≤ t := by rw [hf]; exact Nat.le_trans (prevB_le _ _) (Nat.sub_le _ _)
    have hfb : beginsV l (f : Int) = true := by rw [hf]; exact prevB_begins _ _
    obtain ⟨a, ha, hpa⟩ := place_of (by omega) hfb
    obtain ⟨h1, h2, h3⟩ := next_foundG (its := its) (l := l) (f := f) (t := (t : Int)) (σ := σ) (by omega) hl hlow
    have hall := (searchF_all (g := true) (its := its) (l := l) (f := f) (t := (t : Int)) (σ := σ) (by omega) hl).2.1
    obtain ⟨g1, g2⟩ := found_leadG h1
    unfold lastF
    rw [← hf]
    obtain ⟨τ, hτ⟩ : ∃ τ, τ = searchF true its l f (t : Int) σ := ⟨_, rfl⟩
    rw [← hτ] at h2 h3 hall g1 g2 ⊢
    have hN0 : wdI l 0 (Cs 0 l).length = 0 := by
      unfold wdI
      rw [(cs_ps l).2, List.drop_length]
      rfl
    have up : ∀ i j, a ≤ i → i ≤ (Cs 0 l).length → psI l 0 i ≤ t → Lead l 0 its i j → τ.fo = true ∧ (psI l 0 i < τ.bf ∨ (τ.bf = psI l 0 i ∧ psI l 0 j ≤ τ.bt)) := fun i j hai hi hit hL => by
      have hij := lead_le its i j hL
      obtain ⟨i, rfl⟩ : ∃ i', i = a + i' := ⟨i - a, by omega⟩
      obtain ⟨j, rfl⟩ : ∃ j', j = a + j' := ⟨j - a, by omega⟩
      have hL2 := (lead_shift a ha its i j).2 hL
      rw [hpa] at hL2
      have e1 : psI l f i = psI l 0 (a + i) := by rw [← hpa, psI_shift]
      have e2 : psI l f j = psI l 0 (a + j) := by rw [← hpa, psI_shift]
      have r := g2 i j (fun m hm => by
        have := wdI_shift (l := l) a m
        rw [hpa] at this
        rw [this]
        exact ((cs_ps l).1 (a + m) (by omega)).2) (by rw [e1]; omega) hL2
      rw [e1, e2] at r
      exact r
    by_cases hst : τ.fo = true ∨ f = 0
    · rw [if_pos hst]
      refine ⟨fun hfo => ?_, fun i j hi hit hL => ?_⟩
      · obtain ⟨i, j, k1, k2, k3, k4, k5⟩ := g1 hfo
        have hi : a + i ≤ (Cs 0 l).length := by
          rcases Nat.lt_or_ge (Cs 0 l).length (a + i) with h | h
          · have h4 := k3 ((Cs 0 l).length - a) (by omega)
            have h5 := wdI_shift (l := l) a ((Cs 0 l).length - a)
            rw [hpa, show a + ((Cs 0 l).length - a) = (Cs 0 l).length by omega, hN0] at h5
            exact absurd h5 h4
          · exact h
        rw [← hpa] at k4
        refine ⟨a + i, a + j, hi, ?_, by show τ.bf ≤ t; omega, (lead_shift a ha its i j).1 k4, ?_⟩
        · rw [← psI_shift, hpa]; exact k1
        · rw [← psI_shift, hpa]; exact k5
      · rcases Nat.lt_or_ge i a with h | h
        · have h4 := pl_lt (l := l) h ha
          rw [hpa] at h4
          have hfo : τ.fo = true := hst.resolve_right (by omega)
          exact ⟨hfo, .inl (by show _ < τ.bf; have := (hall hfo).1; omega)⟩
        · exact up i j h hi hit hL
    · rw [if_neg hst]
      have hf0 : f ≠ 0 := fun h => hst (.inr h)
      obtain ⟨r1, r2⟩ := last_lead k (reach * 16) (f - 1) τ (by omega) (by omega) h2 h3
      refine ⟨fun hfo => ?_, fun i j hi hit hL => ?_⟩
      · obtain ⟨i, j, k1, k2, k3, k4, k5⟩ := r1 hfo
        exact ⟨i, j, k1, k2, by omega, k4, k5⟩
      · rcases Nat.lt_or_ge i a with h | h
        · have h4 := pl_lt (l := l) h ha
          rw [hpa] at h4
          exact r2 i j hi (by omega) hL
        · exact absurd (.inl (up i j h hi hit hL).1) hst
end
end Go.Proofs.YtodooppapciegaaGreatDoor
namespace Go.Proofs.YtodooppapciegaaGreatDoor
open Go.RowKit Go.Shelf
set_option linter.unusedVariables false
set_option linter.unusedSimpArgs false
attribute [local go_sem] Oper.semAt_some

theorem load_boolX {w : World} {g : Nat} {v : Value} (h : w.cell? ⟨g, 0, none⟩ = some v) : (loadVar 4 ⟨g, 0, none⟩).run Tryz.prog w = .ok v w := by
  simp [loadVar, Sem.run_bind, Tryz.isAgg4, h, go_sem]
theorem results_row_cellX {P : Program} {fn : Func} {p q : Tmp} {ty ty1 : TypeId} (h : fn.results = #[.cell p ty, .cell q ty1]) (tmps : Array Value) (w : World) (g g1 : Nat) (t t1 : TypeId) (v0 v1 v2 : Value) (d : TypeDesc)
    (hp : tmps.getD p undef = .pointer (some ⟨g, 0, none⟩)) (hq : tmps.getD q undef = .pointer (some ⟨g1, 0, none⟩)) (hg : Box2 w g t v0 v1) (hg1 : Boxed w g1 t1 v2)
    (hu : P.underlying ty = some d) (hd : (match d with | .struct _ | .array _ _ => true | _ => false) = true) (hi : (P.info? ty).map (·.size) = some 2)
    (h1 : ∀ w' : World, w'.cell? ⟨g1, 0, none⟩ = some v2 → (loadVar ty1 ⟨g1, 0, none⟩).run P w' = .ok v2 w') :
    (results fn tmps).run P w = .ok (.tuple #[.agg #[v0, v1], v2]) w := by
  have hp' : tmps[p]?.getD undef = .pointer (some ⟨g, 0, none⟩) := by simpa using hp
  have hq' : tmps[q]?.getD undef = .pointer (some ⟨g1, 0, none⟩) := by simpa using hq
  have e1 := h1 w hg1.cell
  simp [results, h, hp', hq', asAddr, run_loadVar_row w g t ty #[v0, v1] (0, 0) d hg hu hd hi, e1, Sem.run_bind, Result.andThen]
theorem nextB_step {l : List UInt8} {k p : Nat} (h : beginsV l (p : Int) = false) : nextB l (k + 1) p = nextB l k (p + 1) := by
  conv => lhs; unfold nextB
  rw [h]; rfl
theorem nextB_here {l : List UInt8} {k p : Nat} (h : beginsV l (p : Int) = true) : nextB l (k + 1) p = p := by
  unfold nextB
  rw [if_pos h]
theorem pcs_none {its : List Kd} {s : ByteArray} {q : Nat} (hq : q ≤ s.size) (h : (searchF false its (bl s) q (s.size : Int) (run0 its.length)).fo = false) : pcs its (bl s) q = [] := by
  unfold pcs
  rw [bl_len, show s.size + 1 - q = (s.size - q) + 1 by omega]
  have k := pcs_at (its := its) (s := s) (k := s.size - q) (p := q) (σ := run0 its.length) rfl
  unfold run0 at k h
  rw [k, h]
  rfl
theorem pcs_some {its : List Kd} {s : ByteArray} {q : Nat} (hq : q ≤ s.size) (h : (searchF false its (bl s) q (s.size : Int) (run0 its.length)).fo = true) : ∃ r, pcs its (bl s) q = ((searchF false its (bl s) q (s.size : Int) (run0 its.length)).bf, (searchF false its (bl s) q (s.size : Int) (run0 its.length)).bt) :: r := by
  unfold pcs
  rw [bl_len, show s.size + 1 - q = (s.size - q) + 1 by omega]
  have k := pcs_at (its := its) (s := s) (k := s.size - q) (p := q) (σ := run0 its.length) rfl
  unfold run0 at k h ⊢
  rw [k, h]
  exact ⟨_, rfl⟩
theorem nextB_le {s : ByteArray} : ∀ (k p : Nat), p ≤ s.size → s.size + 1 - p ≤ k → nextB (bl s) k p ≤ s.size
  | 0, p, _, h => by omega
  | k + 1, p, hp, h => by
    cases hb : beginsV (bl s) (p : Int) with
    | true => rw [nextB_here hb]; exact hp
    | false =>
      rw [nextB_step hb]
      have hne : p ≠ s.size := fun e => by
        have := begins_fin (bl s)
        rw [bl_len, ← e, hb] at this
        cases this
      exact nextB_le k (p + 1) (by omega) (by omega)
set_option maxRecDepth 100000 in
set_option maxHeartbeats 4000000 in
theorem find_any (D : Nat → Prop) (its : List Kd) (txt s : ByteArray) (w : World) (pb : Nat) (h : PatL D its txt w pb) (hl : its.length ≤ 65536) (hs : s.size ≤ 1000000000) (f : Int) (hf : -9223372036854775808 ≤ f ∧ f < 9223372036854775808) :
    Calls Tryz.prog 11 #[.pointer (some ⟨pb, 0, none⟩), .string s, .int .i64 f] w fun e w' => e = .returned (.tuple #[.agg #[.int .i64 ((findV its (bl s) f).1 : Int), .int .i64 ((findV its (bl s) f).2.1 : Int)], .bool (findV its (bl s) f).2.2]) ∧ Below w.heap.size w w' := by
  obtain ⟨R, hRR⟩ : ∃ R, R = findV its (bl s) f := ⟨_, rfl⟩
  rw [← hRR]
  have HRR := hide hRR
  clear hRR
  have hB0 : Below w.heap.size w ((w.alloc (.cells #[.int .i64 0, .int .i64 0] 36)).alloc (.cells #[.bool false] 4)) := ((Below.refl _ w).alloc (Nat.le_refl _) _).alloc (by simp) _
  have b6 : Box2 ((w.alloc (.cells #[.int .i64 0, .int .i64 0] 36)).alloc (.cells #[.bool false] 4)) w.heap.size 36 (.int .i64 0) (.int .i64 0) :=
    (((Below.refl _ (w.alloc (.cells #[.int .i64 0, .int .i64 0] 36))).alloc (Nat.le_refl _) (.cells #[.bool false] 4)).block w.heap.size (by simp)).trans (heap_alloc_new w (.cells #[.int .i64 0, .int .i64 0] 36))
  have b7 := Boxed.new (w.alloc (.cells #[.int .i64 0, .int .i64 0] 36)) 4 (.bool false)
  have hP := h.below hB0
  have HDW : Hid (∀ k, D k → k < w.heap.size) := by obtain ⟨_, _, hi⟩ := h; exact hi.1
  have kn := fun (W : World) (hw : PatL D its txt W pb) => inW (m := 2) (none_made pb true W hw.made)
  have KN := hide kn
  have HP := hide hP
  have B6 := hide b6
  have B7 := hide b7
  have HB := hide hB0
  clear kn hP b6 b7 hB0 h
  refine (callsIn_wide (n := 3)).1 ?_
  refine callsIn_of_wp_marks Tryz.func11 rfl trivial ?_ rfl
  simp only [Tryz.ntmps11, List.size_toArray, List.length_cons, List.length_nil, Nat.reduceAdd, Nat.reduceSub, Array.replicate_succ, Array.replicate_zero, List.push_toArray, List.append_toArray, List.nil_append, List.cons_append]
  gi_upto_region 1 with (fail)
  obtain ⟨A6, hA6⟩ : ∃ A, A = w.heap.size := ⟨_, rfl⟩
  obtain ⟨A7, hA7⟩ : ∃ A, A = A6 + 1 := ⟨_, rfl⟩
  have e7 : (w.alloc (.cells #[.int .i64 0, .int .i64 0] 36)).heap.size = A7 := by rw [hA7, hA6]; simp
  rw [e7] at B7
  rw [← hA6] at B6 ⊢
  rw [← hA7]
  have HA6 : Hid (w.heap.size = A6) := hA6.symm
  have HA7 : Hid (A7 = A6 + 1) := hA7
  clear hA6 hA7 e7
  generalize (w.alloc (.cells #[.int .i64 0, .int .i64 0] 36)).alloc (.cells #[.bool false] 4) = V at *
  have KN1 := hide (KN.out V HP.out)
  clear KN
  by_cases hfs : (s.size : Int) < f
  · have hv : findV its (bl s) f = (0, 0, false) := by unfold findV; rw [bl_len, if_pos hfs]
    have HV := hide (HRR.out.trans hv)
    have k0 := celOf B6.out 0 _ rfl
    have k1 := B6.out.c1 (.int .i64 0)
    have g0 := frzOf B6.out 0
    have g1 := frzOf B6.out 1
    have k2 := (oth (oth B7.out (b := A6) (o := 0) (by have := HA7.out; omega) (.int .i64 0)) (b := A6) (o := 1) (by have := HA7.out; omega) (.int .i64 0)).cell
    have g2 := B7.out.frozen
    clear hv
    gi_wp2_with (refine ⟨trivial, ?_⟩; gi_at_call 16; refine (KN1.out).mono ?_; rintro e z ⟨rfl, hz⟩; obtain rfl : V = z := hz.symm; clear hz KN1)
    refine ⟨_, results_row_cellX rfl _ _ A6 A7 _ _ _ _ _ _ rfl rfl ((B6.out.set _ _).other (o := 0) (by have := HA7.out; omega) _) ((oth (o := 1) (oth (o := 0) B7.out (by have := HA7.out; omega) _) (by have := HA7.out; omega) _).set _) Tryz.underlying36 rfl (by kernel_rfl) (fun _ h => load_boolX h), ?_, ((HB.out.setCell (p := ⟨A6, 0, none⟩) (Nat.le_of_eq HA6.out) _).setCell (p := ⟨A6, 1, none⟩) (Nat.le_of_eq HA6.out) _).setCell (p := ⟨A7, 0, none⟩) (by have := HA6.out; have := HA7.out; show _ ≤ A7; omega) _⟩
    rw [HV.out]
    rfl
  · obtain ⟨q0, hq0⟩ : ∃ q, q = f.toNat := ⟨_, rfl⟩
    have hq1 : q0 ≤ s.size := by omega
    have hmx : max (0 : Int) f = (q0 : Int) := by omega
    have hv : findV its (bl s) f = if (searchF false its (bl s) (nextB (bl s) (s.size + 1 - q0) q0) (s.size : Int) (run0 its.length)).fo then ((searchF false its (bl s) (nextB (bl s) (s.size + 1 - q0) q0) (s.size : Int) (run0 its.length)).bf, (searchF false its (bl s) (nextB (bl s) (s.size + 1 - q0) q0) (s.size : Int) (run0 its.length)).bt, true) else (0, 0, false) := by
      unfold findV
      rw [bl_len, if_neg hfs, hq0]
    obtain ⟨q, hq⟩ : ∃ q, q = nextB (bl s) (s.size + 1 - q0) q0 := ⟨_, rfl⟩
    rw [← hq] at hv
    have HV := hide (HRR.out.trans hv)
    have HQ := hide hq
    clear hv hq
    gi_upto_region 4 with (refine ⟨trivial, ?_⟩; gi_at_call 16; refine (KN1.out).mono ?_; rintro e z ⟨rfl, hz⟩; obtain rfl : V = z := hz.symm; clear hz KN1)
    rw [show max f 0 = (q0 : Int) by omega]
    have hqs : q ≤ s.size := by rw [HQ.out]; exact nextB_le _ _ hq1 (Nat.le_refl _)
    have HQS := hide hqs
    clear hmx hqs hq0
    gi_loopw [2] (fun iv wr => ∃ (p k : Nat), iv = .int .i64 (p : Int) ∧ p ≤ s.size ∧ s.size + 1 - p ≤ k ∧ nextB (bl s) k p = q ∧ Below V.heap.size V wr) (fun iv _ => s.size + 1 - (intOf iv).toNat)
    case atStart => exact ⟨q0, s.size + 1 - q0, rfl, hq1, Nat.le_refl _, HQ.out.symm, Below.refl _ _⟩
    case round =>
      obtain ⟨p, k, rfl, hp, hk, hnx, hbl⟩ := hrel
      obtain ⟨k, rfl⟩ : ∃ j, k = j + 1 := ⟨k - 1, by omega⟩
      have kb := fun W => inW (m := 2) (begins_any s (p : Int) W (by omega))
      have HBL := hide hbl
      cases hb : beginsV (bl s) (p : Int) with
      | false =>
        rw [hb] at kb
        rw [nextB_step hb] at hnx
        have hne : p ≠ s.size := fun e => by
          have := begins_fin (bl s)
          rw [bl_len, ← e, hb] at this
          cases this
        have KB := hide kb
        have HNX := hide hnx
        clear kb hnx hb hbl
        gi_wp2_with (refine ⟨trivial, ?_⟩; gi_at_call 19; refine (KB.out _).mono ?_; rintro e z ⟨rfl, hz⟩; have HZ := hide (bseq HBL.out hz); clear hz)
        go_roundw
        case rel => exact ⟨p + 1, k, by go_num, by omega, by omega, HNX.out, HZ.out⟩
        case measure => simp [intOf]; omega
      | true =>
        rw [hb] at kb
        rw [nextB_here hb] at hnx
        subst hnx
        have KB := hide kb
        clear kb hb hbl
        have kp := fun W => inW (m := 2) (pieces_any pb s (p : Int) W)
        have KPP := hide kp
        clear kp
        gi_wp2_with (refine ⟨trivial, ?_⟩; first
          | (gi_at_call 19; refine (KB.out _).mono ?_; rintro e z ⟨rfl, hz⟩; have HZ := hide (bseq HBL.out hz); clear hz KB)
          | (gi_at_call 18; refine (KPP.out _).mono ?_; rintro e z2 ⟨rfl, hz2⟩; have HZ2 := hide hz2; clear hz2 KPP))
        have hzB : Below w.heap.size w z := HB.out.trans (HZ.out.mono HB.out.size)
        have hP3 : PatL D its txt z pb := HP.out.below HZ.out
        have b6 : Box2 z A6 36 (.int .i64 0) (.int .i64 0) := (HZ.out.block A6 (Array.getElem?_eq_some_iff.1 B6.out).1).trans B6.out
        have b7 : Boxed z A7 4 (.bool false) := (HZ.out.block A7 (Array.getElem?_eq_some_iff.1 B7.out).1).trans B7.out
        have hz3 : Below z.heap.size z z2 := by
          rw [HZ2.out]
          exact (((Below.refl _ z).alloc (Nat.le_refl _) _).alloc (by simp) _).alloc (by simp; omega) _
        have c0 : z2.cell? ⟨z.heap.size, 0, none⟩ = some (.pointer (some ⟨pb, 0, none⟩)) := by
          rw [HZ2.out]
          exact (((Boxed.new z 22 (.pointer (some ⟨pb, 0, none⟩))).alloc (.cells #[.string s] 9)).alloc (.cells #[.int .i64 (p : Int)] 3)).cell
        have c1 : z2.cell? ⟨z.heap.size + 1, 0, none⟩ = some (.string s) := by
          rw [HZ2.out]
          have k := ((Boxed.new (z.alloc (.cells #[.pointer (some ⟨pb, 0, none⟩)] 22)) 9 (.string s)).alloc (.cells #[.int .i64 (p : Int)] 3)).cell
          simpa using k
        have c2 : z2.cell? ⟨z.heap.size + 1 + 1, 0, none⟩ = some (.int .i64 (p : Int)) := by
          rw [HZ2.out]
          have k := (Boxed.new ((z.alloc (.cells #[.pointer (some ⟨pb, 0, none⟩)] 22)).alloc (.cells #[.string s] 9)) 3 (.int .i64 (p : Int))).cell
          simpa using k
        have hsz : z2.heap.size = z.heap.size + 3 := by rw [HZ2.out]; simp
        have hl6 : A6 < z2.heap.size := Nat.lt_of_lt_of_le (Array.getElem?_eq_some_iff.1 b6).1 (by omega)
        have hl7 : A7 < z2.heap.size := Nat.lt_of_lt_of_le (Array.getElem?_eq_some_iff.1 b7).1 (by omega)
        have hDz : ∀ k, D k → k < z.heap.size := by obtain ⟨_, _, hi⟩ := hP3; exact hi.1
        have hne : A7 ≠ A6 := by have := HA7.out; omega
        have hw6 : w.heap.size ≤ A6 := Nat.le_of_eq HA6.out
        have hw7 : w.heap.size ≤ A7 := by have := HA6.out; have := HA7.out; omega
        have hN6 : ∀ k, (D k ∨ k = z.heap.size + 1) → k < z2.heap.size := fun k h => by
          rcases h with h | h
          · have := hDz k h; omega
          · omega
        have hnA : ∀ a, w.heap.size ≤ a → a < z.heap.size → ¬ (D a ∨ a = z.heap.size + 1) := fun a h1 h2 h => by
          rcases h with h | h
          · have := HDW.out a h; omega
          · omega
        have hz6 : A6 < z.heap.size := (Array.getElem?_eq_some_iff.1 b6).1
        have hz7 : A7 < z.heap.size := (Array.getElem?_eq_some_iff.1 b7).1
        have b6' : Box2 z2 A6 36 (.int .i64 0) (.int .i64 0) := (hz3.block A6 hz6).trans b6
        have b7' : Boxed z2 A7 4 (.bool false) := (hz3.block A7 hz7).trans b7
        have hxs := pieces_x (fun _ => False) (fun k => D k ∨ k = z.heap.size + 1) D its txt z.heap.size (z.heap.size + 1) (z.heap.size + 1 + 1) pb s p z2 hs hp hl hN6 (hP3.below hz3) (.inr rfl) (fun k h => .inl h) c0 c1 c2 id id id id
        have hB2 : Below w.heap.size w z2 := hzB.trans (hz3.mono hzB.size)
        have hws : w.heap.size ≤ z.heap.size := hzB.size
        clear c0 c1 c2 hz3 b6 b7 HZ2 HB B6 B7 HP HZ HBL hP3
        apply rangeP (gf := 37) (lb := #[.pointer (some ⟨z.heap.size, 0, none⟩), .pointer (some ⟨z.heap.size + 1, 0, none⟩), .pointer (some ⟨z.heap.size + 1 + 1, 0, none⟩)]) (encs := encPc) rfl (enters_of Tryz.func37 (by kernel_rfl) rfl)
          hxs (Below.refl _ _) hN6 (fun _ => rfl)
          (fun pre W' => (Box2 W' A6 36 (.int .i64 0) (.int .i64 0) ∧ Boxed W' A7 4 (.bool false)) ∧ (pre = [] ∧ (z2.heap.size ≤ W'.heap.size ∧ Below w.heap.size w W')))
          (fun c pre W' => (c = .ret ∧ (Box2 W' A6 36 (.int .i64 (R.1 : Int)) (.int .i64 (R.2.1 : Int)) ∧ Boxed W' A7 4 (.bool R.2.2))) ∧ Below w.heap.size w W')
          (Stab.and (Stab.and (Stab.box2 _ _ _ hl6) (Stab.box _ _ hl7)) (Stab.and (Stab.pure _) (Stab.and (fun s A B h hs => Nat.le_trans h hs.1.2.2.2) (Stab.below (by omega) (Nat.le_refl _)))))
          (fun c => Stab.and (Stab.and (Stab.pure _) (Stab.and (Stab.box2 _ _ _ hl6) (Stab.box _ _ hl7))) (Stab.below (by omega) (Nat.le_refl _)))
          ⟨⟨b6', b7'⟩, rfl, Nat.le_refl _, hB2⟩ (fun x => #[.int .i64 (x.1 : Int), .int .i64 (x.2 : Int)]) 36
        case hsize => exact fun s W h => h.2.2.1
        case hassign =>
          intro l' x W' K hK
          simp only [encPc]
          gi_wp2
          exact hK _ ((Below.refl _ _).alloc (Nat.le_refl _) _) (heap_alloc_new _ _)
        case hbody =>
          rintro l' pre x Wb W' ⟨⟨h6, h7⟩, rfl, hsz', hbw⟩ hWb hpc hpx
          have hR : R = (x.1, x.2, true) := by
            rw [HV.out]
            cases hfo : (searchF false its (bl s) p (s.size : Int) (run0 its.length)).fo with
            | false =>
              rw [pcs_none hp hfo] at hpx
              have := hpx.length_le
              simp at this
            | true =>
              obtain ⟨r, hr⟩ := pcs_some (its := its) hp hfo
              rw [hr] at hpx
              have hx := List.prefix_iff_eq_take.1 hpx
              simp at hx
              rw [if_pos rfl, hx]
          have HRX := hide hR
          have p0 := celOf hpc 0 _ rfl
          have p1 := celOf hpc 1 _ rfl
          have k0 := celOf h6 0 _ rfl
          have k1 := h6.c1 (.int .i64 (x.1 : Int))
          have g0 := frzOf h6 0
          have g1 := frzOf h6 1
          have k2 := (oth (oth h7 (b := A6) (o := 0) hne (.int .i64 (x.1 : Int))) (b := A6) (o := 1) hne (.int .i64 (x.2 : Int))).cell
          have g2 := h7.frozen
          have H6 := hide h6
          have H7 := hide h7
          have HBW := hide hbw
          have HNA := hide hnA
          clear h6 h7 hbw hpc hpx hsz' hR hnA hxs
          gi_wp2
          rw [HRX.out]
          refine ⟨((Kp.set' (o := 0) _ (HNA.out A6 hw6 hz6) hl6).trans (Kp.set' (o := 1) _ (HNA.out A6 hw6 hz6) hl6)).trans (Kp.set' (o := 0) _ (HNA.out A7 hw7 hz7) hl7), ⟨rfl, (H6.out.set _ _).other (o := 0) hne.symm _, (oth (o := 1) (oth (o := 0) H7.out hne _) hne _).set _⟩, ((HBW.out.setCell (p := ⟨A6, 0, none⟩) hw6 _).setCell (p := ⟨A6, 1, none⟩) hw6 _).setCell (p := ⟨A7, 0, none⟩) hw7 _⟩
        case hdone =>
          rintro D0 W' hD0 ⟨⟨h6, h7⟩, hxe, hsz', hbw⟩ hK
          have hR : R = (0, 0, false) := by
            rw [HV.out]
            cases hfo : (searchF false its (bl s) p (s.size : Int) (run0 its.length)).fo with
            | false => rw [if_neg (by decide)]
            | true =>
              obtain ⟨r, hr⟩ := pcs_some (its := its) hp hfo
              rw [hr] at hxe
              cases hxe
          have HRX := hide hR
          have k0 := celOf h6 0 _ rfl
          have k1 := h6.c1 (.int .i64 0)
          have g0 := frzOf h6 0
          have g1 := frzOf h6 1
          have k2 := (oth (oth h7 (b := A6) (o := 0) hne (.int .i64 0)) (b := A6) (o := 1) hne (.int .i64 0)).cell
          have g2 := h7.frozen
          have H6 := hide h6
          have H7 := hide h7
          have HBW := hide hbw
          have HKK := hide hK
          clear h6 h7 hbw hxe hsz' hR hnA hxs hK
          gi_wp2
          have hK' : (((W'.setCell ⟨A6, 0, none⟩ (.int .i64 0)).setCell ⟨A6, 1, none⟩ (.int .i64 0)).setCell ⟨A7, 0, none⟩ (.bool false)).heap[D0]? = some (.deferred (some [])) := by
            rw [Below.heap_setCell _ _ _ _ (by show D0 ≠ A7; omega), Below.heap_setCell _ _ _ _ (by show D0 ≠ A6; omega), Below.heap_setCell _ _ _ _ (by show D0 ≠ A6; omega)]
            exact HKK.out
          have q1 : Box2 (((W'.setCell ⟨A6, 0, none⟩ (.int .i64 0)).setCell ⟨A6, 1, none⟩ (.int .i64 0)).setCell ⟨A7, 0, none⟩ (.bool false)) A6 36 (.int .i64 0) (.int .i64 0) := (H6.out.set _ _).other (o := 0) hne.symm _
          have q2 : Boxed (((W'.setCell ⟨A6, 0, none⟩ (.int .i64 0)).setCell ⟨A6, 1, none⟩ (.int .i64 0)).setCell ⟨A7, 0, none⟩ (.bool false)) A7 4 (.bool false) := (oth (o := 1) (oth (o := 0) H7.out hne _) hne _).set _
          have qB : Below w.heap.size w (((W'.setCell ⟨A6, 0, none⟩ (.int .i64 0)).setCell ⟨A6, 1, none⟩ (.int .i64 0)).setCell ⟨A7, 0, none⟩ (.bool false)) := ((HBW.out.setCell (p := ⟨A6, 0, none⟩) hw6 _).setCell (p := ⟨A6, 1, none⟩) hw6 _).setCell (p := ⟨A7, 0, none⟩) hw7 _
          refine ⟨by simp, .inl ⟨_, _, rfl, run_takeDeferred hK', ?_⟩⟩
          refine ⟨_, results_row_cellX rfl _ _ A6 A7 _ _ _ _ _ _ rfl rfl (put_kept _ hK' q1 (by omega)) (put_kept _ hK' q2 (by omega)) Tryz.underlying36 rfl (by kernel_rfl) (fun _ h => load_boolX h), ?_, qB.trans (belowK_b (w := w) (Nat.le_refl _) _ D0 _ _ (by omega) hK' rfl rfl)⟩
          rw [HRX.out]
          rfl
        case hstop =>
          rintro D0 c pre W' hD0 _ ⟨⟨rfl, h6, h7⟩, hbw⟩ hK
          have H6 := hide h6
          have H7 := hide h7
          have HBW := hide hbw
          clear h6 h7 hbw hnA hxs
          gi_wp2
          refine ⟨by simp, .inl ⟨_, _, rfl, run_takeDeferred hK, ?_⟩⟩
          refine ⟨_, results_row_cellX rfl _ _ A6 A7 _ _ _ _ _ _ rfl rfl (put_kept _ hK H6.out (by omega)) (put_kept _ hK H7.out (by omega)) Tryz.underlying36 rfl (by kernel_rfl) (fun _ h => load_boolX h), rfl, HBW.out.trans (belowK_b (w := w) (Nat.le_refl _) _ D0 _ _ (by omega) hK rfl rfl)⟩
end Go.Proofs.YtodooppapciegaaGreatDoor
namespace Go.Proofs.YtodooppapciegaaGreatDoor
open Go.RowKit Go.Shelf
set_option linter.unusedVariables false
set_option linter.unusedSimpArgs false
section
variable {its : List Kd} {l : List UInt8}
/-- Where the last of some pieces ends. -/
def toP : Nat → List (Nat × Nat) → Nat
  | t, [] => t
  | _, x :: r => toP x.2 r
theorem toP_snoc (x : Nat × Nat) : ∀ (pre : List (Nat × Nat)) (t : Nat), toP t (pre ++ [x]) = x.2
  | [], _ => rfl
  | y :: r, t => toP_snoc x r y.2
theorem chain_at (x : Nat × Nat) (r : List (Nat × Nat)) : ∀ (pre : List (Nat × Nat)) (a i0 : Nat), i0 ≤ a → Chain its l a (pre ++ x :: r) →
    ∃ k i j, k ≤ i ∧ i ≤ j ∧ j ≤ (Cs 0 l).length ∧ psI l 0 k = toP (psI l 0 i0) pre ∧ psI l 0 i = x.1 ∧ psI l 0 j = x.2 ∧ Lead l 0 its i j ∧ (∀ j', Lead l 0 its i j' → psI l 0 j' ≤ x.2)
  | [], a, i0, h0, h => by
    obtain ⟨i, j, h1, h2, h3, h4, h5, h6, h7, _⟩ := h
    exact ⟨i0, i, j, by omega, h2, h3, rfl, h4, h5, h6, h7⟩
  | y :: pre, a, i0, h0, h => by
    obtain ⟨i, j, h1, h2, h3, h4, h5, h6, h7, h8, h9⟩ := h
    obtain ⟨k, r2⟩ := chain_at x r pre (if i < j then j else j + 1) j (by split <;> omega) h9
    rw [h5] at r2
    exact ⟨k, r2⟩
theorem run0_len (n : Nat) : (run0 n).seen.length = n + 1 := by simp [run0]
theorem run0_low (n : Nat) : ∀ (k r : Nat), (run0 n).seen[k]? = some r → r ≤ (run0 n).round := by
  intro k r h
  simp only [run0] at h ⊢
  rw [List.getElem?_replicate] at h
  split at h
  · simp at h; omega
  · cases h
theorem psI_zero (l : List UInt8) : psI l 0 0 = 0 := rfl
theorem find_at {k : Nat} (hk : k ≤ (Cs 0 l).length) : findV its l (psI l 0 k : Int) =
    if (searchF false its l (psI l 0 k) l.length (run0 its.length)).fo then ((searchF false its l (psI l 0 k) l.length (run0 its.length)).bf, (searchF false its l (psI l 0 k) l.length (run0 its.length)).bt, true) else (0, 0, false) := by
  have h1 := pl_le (l := l) hk
  have h2 := pl_begins (l := l) hk
  unfold findV
  rw [if_neg (by omega), show ((psI l 0 k : Int)).toNat = psI l 0 k by omega]
  have h3 : nextB l (l.length + 1 - psI l 0 k) (psI l 0 k) = psI l 0 k := by
    rw [show l.length + 1 - psI l 0 k = (l.length - psI l 0 k) + 1 by omega]
    exact nextB_here h2
  rw [h3]
/-- What Find tells at a place, by Lead. -/
theorem find_lead {k : Nat} (hk : k ≤ (Cs 0 l).length) :
    ((findV its l (psI l 0 k : Int)).2.2 = true → ∃ i j, k ≤ i ∧ i ≤ j ∧ j ≤ (Cs 0 l).length ∧ psI l 0 i = (findV its l (psI l 0 k : Int)).1 ∧ Lead l 0 its i j ∧ psI l 0 j = (findV its l (psI l 0 k : Int)).2.1) ∧
    (∀ i j, k ≤ i → i ≤ (Cs 0 l).length → Lead l 0 its i j → (findV its l (psI l 0 k : Int)).2.2 = true ∧ (findV its l (psI l 0 k : Int)).1 ≤ psI l 0 i) := by
  obtain ⟨h1, h2⟩ := search_at (its := its) (l := l) (σ := run0 its.length) hk (run0_len _) (run0_low _)
  rw [find_at hk]
  by_cases hf : (searchF false its l (psI l 0 k) l.length (run0 its.length)).fo = true
  · rw [if_pos hf]
    refine ⟨fun _ => h1 hf, fun i j hi hj hL => ⟨rfl, ?_⟩⟩
    have := (h2 i j hi hj hL).2
    show (searchF false its l (psI l 0 k) l.length (run0 its.length)).bf ≤ _
    omega
  · rw [if_neg hf]
    exact And.intro (fun (h : false = true) => absurd h (by decide)) (fun i j hi hj hL => absurd (h2 i j hi hj hL).1 hf)
theorem pcs0_chain : Chain its l 0 (pcs its l 0) :=
  pcs_chain (l.length + 1 - 0) 0 (run0 its.length) (Nat.zero_le _) (run0_len _) (run0_low _)
/-- One piece among all. -/
theorem piece_facts {pre : List (Nat × Nat)} {x : Nat × Nat} (h : pre ++ [x] <+: pcs its l 0) :
    matchV its l (x.1 : Int) = ((x.2 : Int), true) ∧ toP 0 pre ≤ x.1 ∧ x.1 ≤ x.2 ∧ x.2 ≤ l.length ∧ beginsV l (x.1 : Int) = true ∧ beginsV l (x.2 : Int) = true ∧
    (findV its l (toP 0 pre : Int)).2.2 = true ∧ (findV its l (toP 0 pre : Int)).1 ≤ x.1 ∧ (pre = [] → findV its l 0 = (x.1, x.2, true)) := by
  obtain ⟨r, hr⟩ := h
  have hc := pcs0_chain (its := its) (l := l)
  rw [← hr, List.append_assoc] at hc
  obtain ⟨k, i, j, h1, h2, h3, h4, h5, h6, h7, h8⟩ := chain_at x r pre 0 0 (Nat.le_refl _) hc
  rw [psI_zero] at h4
  have hki : psI l 0 k ≤ psI l 0 i := by
    rcases Nat.lt_or_ge k i with h | h
    · exact Nat.le_of_lt (pl_lt h (by omega))
    · obtain rfl : k = i := by omega
      exact Nat.le_refl _
  have hij : psI l 0 i ≤ psI l 0 j := by
    rcases Nat.lt_or_ge i j with h | h
    · exact Nat.le_of_lt (pl_lt h (by omega))
    · obtain rfl : i = j := by omega
      exact Nat.le_refl _
  obtain ⟨m1, m2⟩ := match_at (its := its) (l := l) (i := i) (by omega)
  obtain ⟨n1, n2⟩ := m2 j h7
  obtain ⟨j2, n3, n4⟩ := m1 n1
  have n5 := h8 j2 n3
  obtain ⟨f1, f2⟩ := find_lead (its := its) (l := l) (k := k) (by omega)
  obtain ⟨f3, f4⟩ := f2 i j h1 (by omega) h7
  refine ⟨?_, by omega, by omega, by rw [← h6]; exact pl_le h3, by rw [← h5]; exact pl_begins (by omega), by rw [← h6]; exact pl_begins h3, by rw [← h4]; exact f3, by rw [← h4, ← h5]; exact f4, ?_⟩
  · rw [← h5]
    refine Prod.ext ?_ n1
    show (matchV its l (psI l 0 i : Int)).1 = _
    omega
  · rintro rfl
    have e := find_at (its := its) (l := l) (k := 0) (Nat.zero_le _)
    rw [psI_zero] at e
    rw [show ((0 : Nat) : Int) = 0 by rfl] at e
    rw [e]
    unfold pcs at hr
    rw [show l.length + 1 - 0 = l.length + 1 by omega] at hr
    unfold pcsF at hr
    show _ = _
    unfold run0
    split at hr
    · rename_i hf
      rw [if_pos hf]
      simp only [List.nil_append, List.cons_append, List.cons.injEq] at hr
      rw [hr.1]
    · simp at hr
/-- The ends: Find from the beginning, Last from the end, Match behind what Last tells. -/
theorem ends_facts :
    ((findV its l 0).2.2 = true ↔ pcs its l 0 ≠ []) ∧ (lastPV its l (l.length : Int)).2.2 = (findV its l 0).2.2 ∧
    ((findV its l 0).2.2 = true → (findV its l 0).1 ≤ (lastPV its l (l.length : Int)).1 ∧ (lastPV its l (l.length : Int)).2.1 ≤ l.length ∧ (lastPV its l (l.length : Int)).1 ≤ l.length ∧
      ∀ at' : Nat, (lastPV its l (l.length : Int)).1 < at' → at' ≤ l.length → (matchV its l (at' : Int)).2 = false) := by
  have e := find_at (its := its) (l := l) (k := 0) (Nat.zero_le _)
  obtain ⟨f1, f2⟩ := find_lead (its := its) (l := l) (k := 0) (Nat.zero_le _)
  rw [psI_zero] at e f1 f2
  rw [show ((0 : Nat) : Int) = 0 by rfl] at e f1 f2
  have hlast : lastPV its l (l.length : Int) = lastF its l (l.length + 1) 16 l.length (run0 its.length) := by
    unfold lastPV
    rw [if_neg (by omega)]
    congr 1
    omega
  obtain ⟨g1, g2⟩ := last_lead (its := its) (l := l) (l.length + 1) 16 l.length (run0 its.length) (Nat.le_refl _) (Nat.le_refl _) (run0_len _) (run0_low _)
  rw [← hlast] at g1 g2
  refine ⟨?_, ?_, fun hf => ?_⟩
  · rw [e]
    unfold pcs
    rw [show l.length + 1 - 0 = l.length + 1 by omega]
    unfold pcsF
    unfold run0
    split
    · simp
    · simp
  · cases hf : (findV its l 0).2.2 with
    | true =>
      obtain ⟨i, j, h1, h2, h3, h4, h5, h6⟩ := f1 hf
      exact (g2 i j (by omega) (pl_le (by omega)) h5).1
    | false =>
      cases hg : (lastPV its l (l.length : Int)).2.2 with
      | false => rfl
      | true =>
        obtain ⟨i, j, h1, h2, h3, h4, h5⟩ := g1 hg
        have := (f2 i j (Nat.zero_le _) h1 h4).1
        rw [hf] at this
        cases this
  · obtain ⟨i, j, h1, h2, h3, h4, h5, h6⟩ := f1 hf
    obtain ⟨h7, h8⟩ := g2 i j (by omega) (pl_le (by omega)) h5
    obtain ⟨i2, j2, k1, _, h9, k4, k5⟩ := g1 h7
    have hN0 : wdI l 0 (Cs 0 l).length = 0 := by
      unfold wdI
      rw [(cs_ps l).2, List.drop_length]
      rfl
    refine ⟨by omega, by rw [← k5]; exact pl_le (lead_top hN0 its _ _ k1 k4), h9, fun t ht htl => ?_⟩
    cases hm : (matchV its l (t : Int)).2 with
    | false => rfl
    | true =>
      by_cases hb : beginsV l (t : Int) = true
      · obtain ⟨a, ha, hpa⟩ := place_of htl hb
        have := (match_at (its := its) (l := l) (i := a) ha).1
        rw [hpa] at this
        obtain ⟨b, hL, _⟩ := this hm
        have := (g2 a b ha (by omega) hL).2
        omega
      · have : matchV its l (t : Int) = (0, false) := by unfold matchV; rw [if_neg hb]
        rw [this] at hm
        cases hm
end
end Go.Proofs.YtodooppapciegaaGreatDoor
