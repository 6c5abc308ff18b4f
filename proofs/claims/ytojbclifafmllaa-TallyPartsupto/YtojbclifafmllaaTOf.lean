/- What tally.head, tail, ends and Of answer, of every text. -/
import Derived.Test.YtojbclifafmllaaTM
import Derived.Test.YtojbclifafmllaaTShelf
import Derived.Lib.OthersKept
import Derived.Laws.ResultCell
import Derived.Deep.QuietTactic
import Derived.BigQuiet
namespace Go.Proofs.Ytojbclifafmllaa
open Go.RowKit
set_option linter.unusedVariables false

/-- The first, the last three bytes of a text. -/
def hd (s : ByteArray) : ByteArray := s.extract 0 3
def tl (s : ByteArray) : ByteArray := s.extract (s.size - 3) s.size
theorem hd_size (s : ByteArray) : (hd s).size = min 3 s.size := by unfold hd; rw [ByteArray.size_extract]; omega
theorem tl_size (s : ByteArray) : (tl s).size = min 3 s.size := by unfold tl; rw [ByteArray.size_extract]; omega
theorem bl_inj {a b : ByteArray} (h : bl a = bl b) : a = b := by
  apply ByteArray.ext
  unfold bl at h
  exact Array.toList_inj.1 h
theorem extract_min (s : ByteArray) (n : Nat) : s.extract 0 (min n s.size) = s.extract 0 n := by
  apply bl_inj
  rw [bl_to, bl_to, ← bl_len, List.take_eq_take_min (i := n)]

theorem head_any (s : ByteArray) (w : World) (hs : s.size ≤ 9223372036854775807) :
    Calls Try.prog 18 #[.string s] w fun e w' => e = .returned (.string (hd s)) ∧ Below w.heap.size w w' := by
  have e1 : s.extract 0 (min 3 s.size) = hd s := extract_min s 3
  have e2 : (min (3 : Int) (s.size : Int)).toNat = min 3 s.size := by omega
  have hz := hd_size s
  go_enter Try.func18, Try.ntmps18
  go_wp2_with (go_at_call 34; refine (clone_any _ _ (by omega)).mono ?_; rintro e w1 ⟨rfl, hB⟩)
  go_ret
  exact ⟨rfl, hB⟩

theorem tail_any (s : ByteArray) (w : World) (hs : s.size ≤ 9223372036854775807) :
    Calls Try.prog 19 #[.string s] w fun e w' => e = .returned (.string (tl s)) ∧ Below w.heap.size w w' := by
  have hz := tl_size s
  have e1 : s.extract (s.size - 3) s.size = tl s := rfl
  have e2 : (max (0 : Int) ((s.size : Int) - 3)).toNat = s.size - 3 := by omega
  go_enter Try.func19, Try.ntmps19
  go_wp2_with (go_at_call 34; refine (clone_any _ _ (by omega)).mono ?_; rintro e w1 ⟨rfl, hB⟩)
  go_ret
  exact ⟨rfl, hB⟩

theorem ends_any (r : Nat) (w : World) :
    Calls Try.prog 20 #[.int .i32 (r : Nat)] w fun e w' => e = .returned (.bool (endR r)) ∧ w' = w := by
  have key : endR r = ((((r : Int) == 10) || ((r : Int) == 13)) || ((r : Int) == 133) || ((r : Int) == 8232) || ((r : Int) == 8233)) := by
    unfold endR
    rw [Bool.eq_iff_iff]
    simp only [Bool.or_eq_true, decide_eq_true_eq, beq_iff_eq]
    omega
  have K := hide key
  clear key
  go_enter Try.func20, Try.ntmps20
  go_wp2
  all_goals
    go_ret
    refine ⟨?_, rfl⟩
    rw [K.out]
    simp [*]

theorem nextK {P : Program} (w : World) (k : Nat) (s : ByteArray) (pos : Nat) (ty : TypeId) (hk : w.heap[k]? = some (.stringIter s pos)) (h : pos < s.size) :
    (Instr.next (.pointer (some ⟨k, 0, none⟩)) true ty).run P w = .ok (.tuple #[.bool true, .int .i64 pos, .int .i32 (rune ((bl s).drop pos) : Nat)]) (w.iterAt k s (pos + cw ((bl s).drop pos))) := by
  rw [Lib.run_next_any_at w k s pos ty hk h, decode_eq s pos h]; rfl

/-- A tally, as the cells of its variable. -/
def tyC (b c l : Int) (h t : ByteArray) : Array Value := #[.int .i64 b, .int .i64 c, .int .i64 l, .string h, .string t]
theorem cell_of {w : World} {B : Nat} {cs : Array Value} {t : TypeId} (h : w.heap[B]? = some (.cells cs t (0, 0))) (i : Nat) (v : Value) (hv : cs[i]? = some v) : w.cell? ⟨B, i, none⟩ = some v := by
  simp only [World.cell?, h]
  exact hv
/-- What a function answers whose first result lies in a variable of its own. -/
theorem results_row_tmp {P : Program} {fn : Func} {p u : Tmp} {ty : TypeId} (h : fn.results = #[.cell p ty, .tmp u]) (tmps : Array Value) (w : World) (g : Nat) (t : TypeId) (cs : Array Value) (fr : Nat × Nat) (d : TypeDesc)
    (hp : tmps.getD p undef = .pointer (some ⟨g, 0, none⟩)) (hg : w.heap[g]? = some (.cells cs t fr))
    (hu : P.underlying ty = some d) (hd : (match d with | .struct _ | .array _ _ => true | _ => false) = true) (hi : (P.info? ty).map (·.size) = some cs.size) :
    (results fn tmps).run P w = .ok (.tuple #[.agg cs, tmps.getD u undef]) w := by
  rw [results_cell_tmp h, hp]
  simp [asAddr, run_loadVar_row w g t ty cs fr d hg hu hd hi]
theorem frozen_of {w : World} {B : Nat} {cs : Array Value} {t : TypeId} (h : w.heap[B]? = some (.cells cs t (0, 0))) (i : Nat) : w.frozen? ⟨B, i, none⟩ = false := by
  simp only [World.frozen?, h]
  simp

/-- A tally is stored into a variable, cell by cell. -/
def set5 (W : World) (B : Nat) (v0 v1 v2 v3 v4 : Value) : World := ((((W.setCell ⟨B, 0, none⟩ v0).setCell ⟨B, 1, none⟩ v1).setCell ⟨B, 2, none⟩ v2).setCell ⟨B, 3, none⟩ v3).setCell ⟨B, 4, none⟩ v4
theorem chain5 {W : World} {B : Nat} {a0 a1 a2 a3 a4 : Value} {ty : TypeId} (hR : W.heap[B]? = some (.cells #[a0, a1, a2, a3, a4] ty (0, 0))) (v0 v1 v2 v3 v4 : Value) :
    (W.cell? ⟨B, 0, none⟩ = some a0 ∧ (W.setCell ⟨B, 0, none⟩ v0).cell? ⟨B, 1, none⟩ = some a1 ∧ ((W.setCell ⟨B, 0, none⟩ v0).setCell ⟨B, 1, none⟩ v1).cell? ⟨B, 2, none⟩ = some a2 ∧
      (((W.setCell ⟨B, 0, none⟩ v0).setCell ⟨B, 1, none⟩ v1).setCell ⟨B, 2, none⟩ v2).cell? ⟨B, 3, none⟩ = some a3 ∧ ((((W.setCell ⟨B, 0, none⟩ v0).setCell ⟨B, 1, none⟩ v1).setCell ⟨B, 2, none⟩ v2).setCell ⟨B, 3, none⟩ v3).cell? ⟨B, 4, none⟩ = some a4) ∧
    (W.frozen? ⟨B, 0, none⟩ = false ∧ W.frozen? ⟨B, 1, none⟩ = false ∧ W.frozen? ⟨B, 2, none⟩ = false ∧ W.frozen? ⟨B, 3, none⟩ = false ∧ W.frozen? ⟨B, 4, none⟩ = false) ∧
    (set5 W B v0 v1 v2 v3 v4).heap[B]? = some (.cells #[v0, v1, v2, v3, v4] ty (0, 0)) ∧ (∀ k, k ≠ B → (set5 W B v0 v1 v2 v3 v4).heap[k]? = W.heap[k]?) ∧ (∀ base a, base ≤ B → Below base a W → Below base a (set5 W B v0 v1 v2 v3 v4)) := by
  have R1 := heap_setCell_same W B 0 _ _ v0 hR
  have R2 := heap_setCell_same _ B 1 _ _ v1 R1
  have R3 := heap_setCell_same _ B 2 _ _ v2 R2
  have R4 := heap_setCell_same _ B 3 _ _ v3 R3
  have R5 := heap_setCell_same _ B 4 _ _ v4 R4
  refine ⟨⟨cell_of hR 0 _ rfl, cell_of R1 1 _ rfl, cell_of R2 2 _ rfl, cell_of R3 3 _ rfl, cell_of R4 4 _ rfl⟩, ⟨frozen_of hR 0, frozen_of hR 1, frozen_of hR 2, frozen_of hR 3, frozen_of hR 4⟩, R5, ?_, ?_⟩
  · intro k hk
    unfold set5
    rw [heap_setCell_other _ _ _ _ hk, heap_setCell_other _ _ _ _ hk, heap_setCell_other _ _ _ _ hk, heap_setCell_other _ _ _ _ hk, heap_setCell_other _ _ _ _ hk]
  · intro base a hb hB
    exact ((((hB.setCell hb _).setCell hb _).setCell hb _).setCell hb _).setCell hb _

set_option maxHeartbeats 1000000 in
theorem tof_any (s : ByteArray) (w : World) (hs : s.size ≤ 9223372036854775807) :
    Calls Try.prog 6 #[.string s] w fun e w' => e = .returned (.agg (tyC s.size (chn (bl s)) (lin (bl s)) (hd s) (tl s))) ∧ Below w.heap.size w w' := by
  have KH := hide (fun w => head_any s w hs)
  have KT := hide (fun w => tail_any s w hs)
  go_enter Try.func6, Try.ntmps6
  go_wp2_with (first | (go_at_call 18; refine (KH.out _).mono ?_; rintro e w1 ⟨rfl, hB1⟩) | (go_at_call 19; refine (KT.out _).mono ?_; rintro e w2 ⟨rfl, hB2⟩))
  clear KH KT
  have hB3 : Below w.heap.size (w.alloc (.cells (tyC 0 0 0 ⟨#[]⟩ ⟨#[]⟩) 24)) w2 := (hB1.mono (by simp)).trans (hB2.mono (by have := hB1.size; simp at this; omega))
  have hR0 : w2.heap[w.heap.size]? = some (.cells (tyC 0 0 0 ⟨#[]⟩ ⟨#[]⟩) 24 (0, 0)) := by
    have h1 := bseq hB1 hB2
    rw [h1.block w.heap.size (by simp)]
    exact heap_alloc_new w _
  have hB4 : Below w.heap.size w w2 := ((Below.refl _ w).alloc (Nat.le_refl _) _).trans hB3
  have hlt : w.heap.size < w2.heap.size := (Array.getElem?_eq_some_iff.1 hR0).1
  have hB5 : Below w.heap.size w ((w2.alloc (.cells (tyC s.size 0 0 (hd s) (tl s)) 24)).iter s 0) := (hB4.alloc (by omega) _).alloc (by simp; omega) _
  have hC5 : ((w2.alloc (.cells (tyC s.size 0 0 (hd s) (tl s)) 24)).iter s 0).heap[w2.heap.size]? = some (.cells (tyC s.size 0 0 (hd s) (tl s)) 24 (0, 0)) := by
    show ((w2.alloc _).alloc _).heap[w2.heap.size]? = _
    rw [Below.heap_alloc _ _ _ (by simp)]
    exact heap_alloc_new w2 _
  have hR5 : ((w2.alloc (.cells (tyC s.size 0 0 (hd s) (tl s)) 24)).iter s 0).heap[w.heap.size]? = some (.cells (tyC 0 0 0 ⟨#[]⟩ ⟨#[]⟩) 24 (0, 0)) := by
    show ((w2.alloc _).alloc _).heap[w.heap.size]? = _
    rw [Below.heap_alloc _ _ _ (by simp; omega), Below.heap_alloc _ _ _ (by omega)]
    exact hR0
  have hit : ((w2.alloc (.cells (tyC s.size 0 0 (hd s) (tl s)) 24)).iter s 0).heap[w2.heap.size + 1]? = some (.stringIter s 0) := by
    have := World.iter_heap (w2.alloc (.cells (tyC s.size 0 0 (hd s) (tl s)) 24)) s 0
    rwa [World.size_alloc] at this
  unfold tyC at hB5 hC5 hR5 hit
  generalize ((w2.alloc (.cells #[.int .i64 s.size, .int .i64 0, .int .i64 0, .string (hd s), .string (tl s)] 24)).iter s 0) = w3 at *
  generalize w2.heap.size = G at *
  have HB := hide hB5
  have HC := hide hC5
  have HR := hide hR5
  have HI := hide hit
  clear hB1 hB2 hB3 hR0 hB4 hB5 hC5 hR5 hit
  go_loopw [4] (fun q wr => ∃ a pos k m : Nat, q = .int .i32 (a : Nat) ∧ pos ≤ s.size ∧ k ≤ pos ∧ m ≤ k ∧ k + chn ((bl s).drop pos) = chn (bl s) ∧ m + linR a (runesV ((bl s).drop pos)) = lin (bl s) ∧
      wr.heap[G]? = some (.cells #[.int .i64 s.size, .int .i64 k, .int .i64 m, .string (hd s), .string (tl s)] 24 (0, 0)) ∧
      wr.heap[w.heap.size]? = some (.cells #[.int .i64 0, .int .i64 0, .int .i64 0, .string ⟨#[]⟩, .string ⟨#[]⟩] 24 (0, 0)) ∧ wr.heap[G + 1]? = some (.stringIter s pos) ∧ Below w.heap.size w wr) (fun _ wr => s.size - wr.iterPos (G + 1))
  case atStart => exact ⟨0, 0, 0, 0, rfl, by omega, by omega, by omega, by simp, by simp [lin], HC.out, HR.out, HI.out, HB.out⟩
  case round =>
    clear HB HC HR HI
    obtain ⟨a, pos, k, m, rfl, hp, hkp, hmk, hch, hli, hC, hR, hit, hB⟩ := hrel
    have hGs : G + 1 < wr.heap.size := (Array.getElem?_eq_some_iff.1 hit).1
    have HIT := hide hit
    by_cases hlt' : pos < s.size
    · have hnx : ∀ ty, (Instr.next (.pointer (some ⟨G + 1, 0, none⟩)) true ty).run Try.prog wr = _ := fun ty => nextK wr (G + 1) s pos ty hit hlt'
      have h1 := cw_pos ((bl s).drop pos)
      have h2 := cw_len _ (bl_drop_ne hlt')
      rw [List.length_drop, bl_len] at h2
      rw [chn_step _ (bl_drop_ne hlt'), List.drop_drop] at hch
      rw [linR_step _ (bl_drop_ne hlt') a, List.drop_drop] at hli
      generalize rune ((bl s).drop pos) = r at *
      generalize cw ((bl s).drop pos) = c at *
      have hC2 : (wr.iterAt (G + 1) s (pos + c)).heap[G]? = _ := (Lib.iterAt_other _ _ _ _ _ (by omega)).trans hC
      have hR2 : (wr.iterAt (G + 1) s (pos + c)).heap[w.heap.size]? = _ := (Lib.iterAt_other _ _ _ _ _ (by omega)).trans hR
      have hit2 := Lib.iterAt_heap wr (G + 1) s pos (pos + c) hit
      have hB2 := Lib.below_iterAt hB (k := G + 1) (by omega) s (pos + c)
      have hsz2 : (wr.iterAt (G + 1) s (pos + c)).heap.size = wr.heap.size := Lib.iterAt_size _ _ _ _
      generalize hW : wr.iterAt (G + 1) s (pos + c) = W2 at *
      have hC3 := heap_setCell_same W2 G 1 _ _ (.int .i64 ((k : Int) + 1)) hC2
      have c1 := cell_of hC2 1 _ rfl
      have f1 := frozen_of hC2 1
      have f2 := frozen_of hC2 2
      have c2 := cell_of hC3 2 _ rfl
      have ke := fun w => ends_any r w
      have hone : oneR a r = (if endR r = true ∧ ¬ (a = 13 ∧ r = 10) then 1 else 0) := rfl
      have HO := hide hone
      have HCH := hide hch
      have HLI := hide hli
      have HC3 := hide hC3
      have HR2 := hide hR2
      have HT2 := hide hit2
      have HB2 := hide hB2
      have HS2 := hide hsz2
      clear hone hch hli hC3 hC2 hR2 hit2 hB2 hB hit hC hR hW hsz2
      have fin : ∀ wz : World, ∀ m' : Nat, m' + linR r (runesV ((bl s).drop (pos + c))) = lin (bl s) → m' ≤ k + 1 → wz.heap[G]? = some (.cells #[.int .i64 s.size, .int .i64 (k + 1 : Nat), .int .i64 m', .string (hd s), .string (tl s)] 24 (0, 0)) →
          wz.heap[w.heap.size]? = W2.heap[w.heap.size]? → wz.heap[G + 1]? = W2.heap[G + 1]? → Below w.heap.size w wz → ∃ a pos k m : Nat, Value.int .i32 (r : Nat) = .int .i32 (a : Nat) ∧ pos ≤ s.size ∧ k ≤ pos ∧ m ≤ k ∧ k + chn ((bl s).drop pos) = chn (bl s) ∧ m + linR a (runesV ((bl s).drop pos)) = lin (bl s) ∧
      wz.heap[G]? = some (.cells #[.int .i64 s.size, .int .i64 k, .int .i64 m, .string (hd s), .string (tl s)] 24 (0, 0)) ∧
      wz.heap[w.heap.size]? = some (.cells #[.int .i64 0, .int .i64 0, .int .i64 0, .string ⟨#[]⟩, .string ⟨#[]⟩] 24 (0, 0)) ∧ wz.heap[G + 1]? = some (.stringIter s pos) ∧ Below w.heap.size w wz := by
        intro wz m' g1 g2 g3 g4 g5 g6
        exact ⟨r, pos + c, k + 1, m', rfl, by omega, by omega, g2, by have := HCH.out; omega, g1, g3, g4.trans HR2.out, g5.trans HT2.out, g6⟩
      have FIN := hide fin
      clear fin
      have hmeas : ∀ wz : World, wz.heap[G + 1]? = W2.heap[G + 1]? → s.size - wz.iterPos (G + 1) < s.size - wr.iterPos (G + 1) := by
        intro wz h
        have e1 : wz.iterPos (G + 1) = pos + c := iterPos_of (h.trans HT2.out)
        have e2 : wr.iterPos (G + 1) = pos := iterPos_of HIT.out
        rw [e1, e2]
        omega
      have HME := hide hmeas
      clear hmeas
      cases he : endR r
      · rw [he] at HO ke
        have HO1 : Hid (oneR a r = 0) := hide (HO.out.trans (if_neg (fun h => by cases h.1)))
        clear he
        go_wp2_with (go_at_call 20; refine (ke _).mono ?_; rintro e w4 ⟨rfl, rfl⟩)
        go_roundw
        case rel => exact FIN.out _ m (by have := HLI.out; have := HO1.out; omega) (by omega) (HC3.out.trans rfl) (heap_setCell_other _ _ _ _ (by simp; omega)) (heap_setCell_other _ _ _ _ (by simp)) (HB2.out.setCell (by simp; omega) _)
        case measure => exact HME.out _ (heap_setCell_other _ _ _ _ (by simp))
      · rw [he] at HO ke
        clear he
        by_cases ha : a = 13
        · have ha' : ((a : Int) == 13) = true := by simp; omega
          by_cases hr : r = 10
          · have hr' : ((r : Int) == 10) = true := by simp; omega
            have HO1 : Hid (oneR a r = 0) := hide (HO.out.trans (if_neg (fun h => h.2 ⟨ha, hr⟩)))
            clear ha hr
            go_wp2_with (go_at_call 20; refine (ke _).mono ?_; rintro e w4 ⟨rfl, rfl⟩)
            go_roundw
            case rel => exact FIN.out _ m (by have := HLI.out; have := HO1.out; omega) (by omega) (HC3.out.trans rfl) (heap_setCell_other _ _ _ _ (by simp; omega)) (heap_setCell_other _ _ _ _ (by simp)) (HB2.out.setCell (by simp; omega) _)
            case measure => exact HME.out _ (heap_setCell_other _ _ _ _ (by simp))
          · have hr' : ((r : Int) == 10) = false := by simp; omega
            have HO1 : Hid (oneR a r = 1) := hide (HO.out.trans (if_pos ⟨rfl, fun h => hr h.2⟩))
            clear ha hr
            go_wp2_with (go_at_call 20; refine (ke _).mono ?_; rintro e w4 ⟨rfl, rfl⟩)
            go_roundw
            case rel => exact FIN.out _ (m + 1) (by have := HLI.out; have := HO1.out; omega) (by omega) ((heap_setCell_same _ G 2 _ _ _ HC3.out).trans rfl) ((heap_setCell_other _ _ _ _ (by simp; omega)).trans (heap_setCell_other _ _ _ _ (by simp; omega))) ((heap_setCell_other _ _ _ _ (by simp)).trans (heap_setCell_other _ _ _ _ (by simp))) ((HB2.out.setCell (by simp; omega) _).setCell (by simp; omega) _)
            case measure => exact HME.out _ ((heap_setCell_other _ _ _ _ (by simp)).trans (heap_setCell_other _ _ _ _ (by simp)))
        · have ha' : ((a : Int) == 13) = false := by simp; omega
          have HO1 : Hid (oneR a r = 1) := hide (HO.out.trans (if_pos ⟨rfl, fun h => ha h.1⟩))
          clear ha
          go_wp2_with (go_at_call 20; refine (ke _).mono ?_; rintro e w4 ⟨rfl, rfl⟩)
          go_roundw
          case rel => exact FIN.out _ (m + 1) (by have := HLI.out; have := HO1.out; omega) (by omega) ((heap_setCell_same _ G 2 _ _ _ HC3.out).trans rfl) ((heap_setCell_other _ _ _ _ (by simp; omega)).trans (heap_setCell_other _ _ _ _ (by simp; omega))) ((heap_setCell_other _ _ _ _ (by simp)).trans (heap_setCell_other _ _ _ _ (by simp))) ((HB2.out.setCell (by simp; omega) _).setCell (by simp; omega) _)
          case measure => exact HME.out _ ((heap_setCell_other _ _ _ _ (by simp)).trans (heap_setCell_other _ _ _ _ (by simp)))
    · have hnx : ∀ ty, (Instr.next (.pointer (some ⟨G + 1, 0, none⟩)) true ty).run Try.prog wr = _ := fun ty => Lib.run_next_end_at wr (G + 1) s pos ty hit hlt'
      have h3 : (bl s).drop pos = [] := List.drop_eq_nil_of_le (by rw [bl_len]; omega)
      rw [h3] at hch hli
      have hk : k = chn (bl s) := by rw [← hch, chn_nil, Nat.add_zero]
      have hm : m = lin (bl s) := by rw [← hli, runesV_nil]; rfl
      clear hch hli h3
      subst hk hm
      have hB' := hide hB
      have HC := hide hC
      have HR := hide hR
      have c0 := cell_of hC 0 _ rfl
      have c1 := cell_of hC 1 _ rfl
      have c2 := cell_of hC 2 _ rfl
      have c3 := cell_of hC 3 _ rfl
      have c4 := cell_of hC 4 _ rfl
      have f0 := frozen_of hR 0
      have f1 := frozen_of hR 1
      have f2 := frozen_of hR 2
      have f3 := frozen_of hR 3
      have f4 := frozen_of hR 4
      have d0 := cell_of hR 0 _ rfl
      have R1 := heap_setCell_same wr w.heap.size 0 _ _ (.int .i64 s.size) hR
      have d1 := cell_of R1 1 _ rfl
      have R2 := heap_setCell_same _ w.heap.size 1 _ _ (.int .i64 (chn (bl s) : Nat)) R1
      have d2 := cell_of R2 2 _ rfl
      have R3 := heap_setCell_same _ w.heap.size 2 _ _ (.int .i64 (lin (bl s) : Nat)) R2
      have d3 := cell_of R3 3 _ rfl
      have R4 := heap_setCell_same _ w.heap.size 3 _ _ (.string (hd s)) R3
      have d4 := cell_of R4 4 _ rfl
      have R5 := heap_setCell_same _ w.heap.size 4 _ _ (.string (tl s)) R4
      have e0 := cell_of R5 0 _ rfl
      have e1 := cell_of R5 1 _ rfl
      have e2 := cell_of R5 2 _ rfl
      have e3 := cell_of R5 3 _ rfl
      have e4 := cell_of R5 4 _ rfl
      have HR5 := hide R5
      clear hB hit HIT hC hR R1 R2 R3 R4 R5
      go_wp2
      (try simp only [Exit.inBlock, Exit.then])
      refine bodyPost_ret (results_cell_row rfl _ _ w.heap.size _ _ _ _ rfl HR5.out Try.underlying24 rfl (by kernel_rfl)) rfl ?_
      exact ⟨rfl, ((((hB'.out.setCell (Nat.le_refl _) _).setCell (Nat.le_refl _) _).setCell (Nat.le_refl _) _).setCell (Nat.le_refl _) _).setCell (Nat.le_refl _) _⟩
end Go.Proofs.Ytojbclifafmllaa
