/- Package super: the superblock of a plan. -/
import Derived.Test.YtmljacjbpcgijaaPFrm
import Derived.Test.YtmljacjbpcgijaaZPlan
import Derived.Deep.Cut
import Derived.Lib.SlBytesConst
namespace Go.Proofs.Ytmljacjbpcgijaa
open Go.RowKit Go.Shelf
set_option linter.unusedVariables false

def sbName : List Nat := [86, 69, 76, 76, 85, 77, 48, 49]
def sbN (N q : Nat) : List Nat := [N, 128, 32768, 32896, q, 0]
/-- The superblock's bytes, the name and so many numbers. -/
def sbPre (N q k : Nat) : List Nat := sbName ++ ((sbN N q).take k).flatMap (leB 8)
def sbB (N q : Nat) : List Nat := sbPre N q 6 ++ leB 8 (moreV 0 (sbPre N q 6))
theorem flat_len (l : List Nat) : (l.flatMap (leB 8)).length = 8 * l.length := by
  induction l with
  | nil => rfl
  | cons a l ih => rw [List.flatMap_cons, List.length_append, ih, leB_length, List.length_cons]; omega
theorem sbPre_len (N q k : Nat) (h : k ≤ 6) : (sbPre N q k).length = 8 + 8 * k := by
  unfold sbPre
  rw [List.length_append, flat_len, List.length_take]
  have : (sbN N q).length = 6 := rfl
  have : sbName.length = 8 := rfl
  omega
theorem sbPre_lt (N q k : Nat) : ∀ x ∈ sbPre N q k, x < 256 := by
  intro x hx
  rcases List.mem_append.1 hx with h | h
  · revert h
    unfold sbName
    simp
    omega
  · obtain ⟨v, _, hv⟩ := List.mem_flatMap.1 h
    exact leB_lt 8 v x hv
theorem sbPre_succ (N q k v : Nat) (h : (sbN N q)[k]? = some v) : sbPre N q (k + 1) = sbPre N q k ++ leB 8 v := by
  unfold sbPre
  rw [List.take_add_one, h, Option.toList_some, List.flatMap_append, List.append_assoc]
  simp
theorem sbB_len (N q : Nat) : (sbB N q).length = 64 := by unfold sbB; rw [List.length_append, sbPre_len _ _ _ (Nat.le_refl _), leB_length]
theorem sbB_lt (N q : Nat) : ∀ x ∈ sbB N q, x < 256 := by
  intro x hx
  rcases List.mem_append.1 hx with h | h
  · exact sbPre_lt _ _ _ x h
  · exact leB_lt 8 _ x h
theorem idx6_0 (N q : Nat) (w : World) : (Instr.index 87 (.agg #[.int .i64 (N : Int), .int .i64 128, .int .i64 32768, .int .i64 32896, .int .i64 (q : Int), .int .i64 0]) (.int .i64 0)).run Try.prog w = .ok (.int .i64 (N : Int)) w := by kernel_rfl
theorem idx6_1 (N q : Nat) (w : World) : (Instr.index 87 (.agg #[.int .i64 (N : Int), .int .i64 128, .int .i64 32768, .int .i64 32896, .int .i64 (q : Int), .int .i64 0]) (.int .i64 1)).run Try.prog w = .ok (.int .i64 128) w := by kernel_rfl
theorem idx6_2 (N q : Nat) (w : World) : (Instr.index 87 (.agg #[.int .i64 (N : Int), .int .i64 128, .int .i64 32768, .int .i64 32896, .int .i64 (q : Int), .int .i64 0]) (.int .i64 2)).run Try.prog w = .ok (.int .i64 32768) w := by kernel_rfl
theorem idx6_3 (N q : Nat) (w : World) : (Instr.index 87 (.agg #[.int .i64 (N : Int), .int .i64 128, .int .i64 32768, .int .i64 32896, .int .i64 (q : Int), .int .i64 0]) (.int .i64 3)).run Try.prog w = .ok (.int .i64 32896) w := by kernel_rfl
theorem idx6_4 (N q : Nat) (w : World) : (Instr.index 87 (.agg #[.int .i64 (N : Int), .int .i64 128, .int .i64 32768, .int .i64 32896, .int .i64 (q : Int), .int .i64 0]) (.int .i64 4)).run Try.prog w = .ok (.int .i64 (q : Int)) w := by kernel_rfl
theorem idx6_5 (N q : Nat) (w : World) : (Instr.index 87 (.agg #[.int .i64 (N : Int), .int .i64 128, .int .i64 32768, .int .i64 32896, .int .i64 (q : Int), .int .i64 0]) (.int .i64 5)).run Try.prog w = .ok (.int .i64 0) w := by kernel_rfl
theorem idx6 (N q k v : Nat) (hk : (sbN N q)[k]? = some v) (w : World) : (Instr.index 87 (.agg #[.int .i64 (N : Int), .int .i64 128, .int .i64 32768, .int .i64 32896, .int .i64 (q : Int), .int .i64 0]) (.int .i64 (k : Int))).run Try.prog w = .ok (.int .i64 (v : Int)) w := by
  have h6 : k < 6 := (List.getElem?_eq_some_iff.1 hk).1
  obtain rfl | rfl | rfl | rfl | rfl | rfl : k = 0 ∨ k = 1 ∨ k = 2 ∨ k = 3 ∨ k = 4 ∨ k = 5 := by omega
  · simp [sbN] at hk
    subst hk
    exact idx6_0 N q w
  · simp [sbN] at hk
    subst hk
    exact idx6_1 N q w
  · simp [sbN] at hk
    subst hk
    exact idx6_2 N q w
  · simp [sbN] at hk
    subst hk
    exact idx6_3 N q w
  · simp [sbN] at hk
    subst hk
    exact idx6_4 N q w
  · simp [sbN] at hk
    subst hk
    exact idx6_5 N q w
theorem sbN_lt {N q k v : Nat} (hN : N ≤ 4194304) (hq : q ≤ 4194304) (hk : (sbN N q)[k]? = some v) : v ≤ 4194304 := by
  have h := List.mem_of_getElem? hk
  simp [sbN] at h
  omega
theorem zero_line : ∃ Z : List Value, Z.length = 64 ∧ ∀ w : World, (zeroValue 68).run Try.prog w = .ok (.agg Z.toArray) w := by
  have h : (Try.prog.info? 68).map (fun i => (i.zero.map (fun z => match z with | .agg Z => Z.size | _ => 0))) = some (some 64) := by kernel_rfl
  cases hi : Try.prog.info? 68 with
  | none => rw [hi] at h; cases h
  | some it =>
    rw [hi] at h
    simp only [Option.map_some, Option.some.injEq] at h
    cases hz : it.zero with
    | none => rw [hz] at h; cases h
    | some z =>
      rw [hz] at h
      cases z <;> simp at h
      rename_i Z
      exact ⟨Z.toList, by simp [h], fun w => by simp [zeroValue, typeInfo, hi, hz]⟩
theorem array_line (g o len cap : Nat) (hn : 64 ≤ len) (w : World) : (Instr.arrayAt 68 (.slice (some ⟨g, o, none⟩) len cap)).run Try.prog w = .ok (.pointer (some ⟨g, o, none⟩)) w := by
  have hu : Try.prog.underlying 68 = some (.array 64 5) := by kernel_rfl
  simp [Instr.arrayAt, run_underlying hu, Nat.not_lt.2 hn]
set_option maxRecDepth 100000 in
set_option maxHeartbeats 1000000 in
theorem block_nat (N q : Nat) (w : World) (hN : N ≤ 4194304) (hq : q ≤ 4194304) :
    Calls Try.prog 28 #[.agg (suC N 128 32768 32896 q)] w fun e w' => e = .returned (.agg ((sbB N q).map B8).toArray) ∧ Below w.heap.size w w' := by
  obtain ⟨Z, hzl, hz⟩ := zero_line
  have HZ := hide hz
  have HZL := hide hzl
  have HN := hide hN
  have HQ := hide hq
  clear hz hzl hN hq
  unfold suC
  go_enter Try.func28, Try.ntmps28
  have cv := Lib.run_convert_bytes_const (P := Try.prog) ((w.alloc (.cells #[.int .i64 (N : Int), .int .i64 128, .int .i64 32768, .int .i64 32896, .int .i64 (q : Int)] 37)).alloc (.cells Z.toArray 68)) 22 5 #[.int .u8 86, .int .u8 69, .int .u8 76, .int .u8 76, .int .u8 85, .int .u8 77, .int .u8 48, .int .u8 49] 8 8 Try.underlying22 Try.underlying5
  simp only [World.size_alloc] at cv
  go_upto_region 2 with (refine wpList_alloc_row rfl 68 rfl Z (HZ.out _) ?_)
  clear cv
  have h0 : (((w.alloc (.cells #[.int .i64 (N : Int), .int .i64 128, .int .i64 32768, .int .i64 32896, .int .i64 (q : Int)] 37)).alloc (.cells Z.toArray 68)).alloc (.cells #[.int .u8 86, .int .u8 69, .int .u8 76, .int .u8 76, .int .u8 85, .int .u8 77, .int .u8 48, .int .u8 49] 5 (8, 9))).heap[w.heap.size]? = some (.cells #[.int .i64 (N : Int), .int .i64 128, .int .i64 32768, .int .i64 32896, .int .i64 (q : Int)] 37 (0, 0)) := by
    rw [Below.heap_alloc _ _ _ (by simp; omega), Below.heap_alloc _ _ _ (by simp)]
    exact heap_alloc_new w _
  have h1 : (((w.alloc (.cells #[.int .i64 (N : Int), .int .i64 128, .int .i64 32768, .int .i64 32896, .int .i64 (q : Int)] 37)).alloc (.cells Z.toArray 68)).alloc (.cells #[.int .u8 86, .int .u8 69, .int .u8 76, .int .u8 76, .int .u8 85, .int .u8 77, .int .u8 48, .int .u8 49] 5 (8, 9))).heap[w.heap.size + 1]? = some (.cells Z.toArray 68 (0, 0)) := by
    rw [Below.heap_alloc _ _ _ (by simp)]
    have := heap_alloc_new (w.alloc (.cells #[.int .i64 (N : Int), .int .i64 128, .int .i64 32768, .int .i64 32896, .int .i64 (q : Int)] 37)) (.cells Z.toArray 68)
    rwa [World.size_alloc] at this
  have h2 : Sl (((w.alloc (.cells #[.int .i64 (N : Int), .int .i64 128, .int .i64 32768, .int .i64 32896, .int .i64 (q : Int)] 37)).alloc (.cells Z.toArray 68)).alloc (.cells #[.int .u8 86, .int .u8 69, .int .u8 76, .int .u8 76, .int .u8 85, .int .u8 77, .int .u8 48, .int .u8 49] 5 (8, 9))) (some ⟨w.heap.size + 1 + 1, 0, none⟩) (sbPre N q 0) := by
    have := heap_alloc_new ((w.alloc (.cells #[.int .i64 (N : Int), .int .i64 128, .int .i64 32768, .int .i64 32896, .int .i64 (q : Int)] 37)).alloc (.cells Z.toArray 68)) (.cells #[.int .u8 86, .int .u8 69, .int .u8 76, .int .u8 76, .int .u8 85, .int .u8 77, .int .u8 48, .int .u8 49] 5 (8, 9))
    rw [World.size_alloc, World.size_alloc] at this
    refine .inr ⟨_, 0, rfl, lt_of_heap this, fun i y hy => ⟨?_, sbPre_lt N q 0 y (List.mem_of_getElem? hy)⟩⟩
    have e : (sbPre N q 0)[i]? = some y := hy
    have h5 : ((sbPre N q 0).map B8)[i]? = some (.int .u8 (y : Int)) := by rw [List.getElem?_map, e]; rfl
    rw [Nat.zero_add]
    replace this := (show _ = some (Obj.cells ((sbPre N q 0).map B8).toArray 5 (8, 9)) from this)
    simp only [World.cell?, this]
    simpa using h5
  have h3 : Below w.heap.size w (((w.alloc (.cells #[.int .i64 (N : Int), .int .i64 128, .int .i64 32768, .int .i64 32896, .int .i64 (q : Int)] 37)).alloc (.cells Z.toArray 68)).alloc (.cells #[.int .u8 86, .int .u8 69, .int .u8 76, .int .u8 76, .int .u8 85, .int .u8 77, .int .u8 48, .int .u8 49] 5 (8, 9))) := (((Below.refl _ w).alloc (Nat.le_refl _) _).alloc (by simp) _).alloc (by simp; omega) _
  generalize (((w.alloc (.cells #[.int .i64 (N : Int), .int .i64 128, .int .i64 32768, .int .i64 32896, .int .i64 (q : Int)] 37)).alloc (.cells Z.toArray 68)).alloc (.cells #[.int .u8 86, .int .u8 69, .int .u8 76, .int .u8 76, .int .u8 85, .int .u8 77, .int .u8 48, .int .u8 49] 5 (8, 9))) = W at *
  have c0 := cell_of h0 0 _ rfl
  have c1 := cell_of h0 1 _ rfl
  have c2 := cell_of h0 2 _ rfl
  have c3 := cell_of h0 3 _ rfl
  have c4 := cell_of h0 4 _ rfl
  have H1 := hide h1
  have H2 := hide h2
  have H3 := hide h3
  clear h0 h1 h2 h3
  go_wp2
  go_loopw [3, 19] (fun bv iv wr => ∃ k g : Nat, k ≤ 6 ∧ iv = .int .i64 (k : Int) ∧ bv = .slice (some ⟨g, 0, none⟩) (8 + 8 * k) (8 + 8 * k) ∧ Sl wr (some ⟨g, 0, none⟩) (sbPre N q k) ∧ wr.heap[w.heap.size + 1]? = some (.cells Z.toArray 68 (0, 0)) ∧ Below w.heap.size w wr) (fun bv iv _ => (6 - (intOf iv).toNat))
  case atStart => exact ⟨0, _, by omega, rfl, rfl, H2.out, H1.out, H3.out⟩
  case round =>
    clear H1 H2 H3 c0 c1 c2 c3 c4
    obtain ⟨k, g, hk, rfl, rfl, hO, hZ, hB⟩ := hrel
    have hOl := sbPre_len N q k hk
    by_cases hlt : k < 6
    · have kI : (k : Int) < 6 := by omega
      obtain ⟨v, hv⟩ : ∃ v, (sbN N q)[k]? = some v := ⟨_, List.getElem?_eq_getElem hlt⟩
      have hv2 := sbN_lt HN.out HQ.out hv
      have ix := fun X => idx6 N q k v hv X
      have wv : IntKind.u64.wrap (v : Int) = (v : Int) := by rw [IntKind.wrap_u64]; omega
      have kp := put64 (some ⟨g, 0, none⟩) (8 + 8 * k) v (sbPre N q k) wr hO (by rw [hOl]; omega) (by omega)
      rw [hOl] at kp
      rw [← sbPre_succ N q k v hv] at kp
      have KP := hide kp
      have HZ1 := hide hZ
      have HB := hide hB
      have HOL := hide hOl
      have HV := hide hv2
      clear hO hZ hB hOl hv hv2 kp
      go_wp2_with (go_at_call 42; refine (KP.out).mono ?_; rintro e w1 ⟨rfl, hb1, ho1⟩; have HB1 := hide hb1; have HO1 := hide ho1; clear hb1 ho1)
      go_roundw
      case rel =>
        refine ⟨k + 1, wr.heap.size, by omega, int_congrP (by omega), rfl, HO1.out.sl (sbPre_lt N q (k + 1)), (HB1.out.block _ (lt_of_heap HZ1.out)).trans HZ1.out, HB.out.trans (HB1.out.mono HB.out.size)⟩
      case measure => simp [intOf]; omega
    · obtain rfl : k = 6 := by omega
      have ks := sum_one wr (some ⟨g, 0, none⟩) 56 (sbPre N q 6) hO (by rw [hOl]; unfold maxLen; omega)
      rw [hOl] at ks
      obtain ⟨m, hm⟩ : ∃ m, m = moreV 0 (sbPre N q 6) := ⟨_, rfl⟩
      have hm2 : m < 4294967296 := by rw [hm]; exact moreV_lt 0 _ (by omega) (sbPre_lt N q 6)
      rw [← hm] at ks
      have wm : IntKind.u64.wrap (m : Int) = (m : Int) := by rw [IntKind.wrap_u64]; omega
      have SI := hide (show (Try.prog.info? 68).map (·.size) = some ((sbB N q).map B8).toArray.size by rw [List.size_toArray, List.length_map, sbB_len]; kernel_rfl)
      have S1 := hide (all_oneCell_toArray (B8_cell (sbB N q)))
      have ar := fun g X => array_line g 0 64 64 (by omega) X
      have KS := hide ks
      have HZ1 := hide hZ
      have HB := hide hB
      have HO := hide hO
      have HOL := hide hOl
      have HM := hide hm
      have HM2 := hide hm2
      clear hO hZ hB hOl hm hm2 ks
      go_wp2_with (first
        | (go_at_call 43; refine (KS.out).mono ?_; rintro e w1 ⟨rfl, hb1⟩; have kp := put64 (some ⟨g, 0, none⟩) 56 m (sbPre N q 6) w1 (HO.out.below hb1) (by rw [HOL.out]; omega) (by have := HM2.out; omega); rw [HOL.out] at kp; have KP := hide kp; have HB1 := hide hb1; clear hb1 kp)
        | (go_at_call 42; refine (KP.out).mono ?_; rintro e w2 ⟨rfl, hb2, ho2⟩; rw [HM.out] at ho2; have ho3 : OwnB w2 w1.heap.size (sbB N q) := ho2; have HRN := hide (range_all ho3); have hb3 := HB1.out.trans (hb2.mono HB1.out.size); have hz2 := (hb3.block _ (lt_of_heap HZ1.out)).trans HZ1.out; have HZ2 := hide hz2; have TH := hide (there_row hz2 0 ((sbB N q).map B8).toArray.size (by rw [List.size_toArray, List.length_map, sbB_len, HZL.out]; omega)); have HB3 := hide (HB.out.trans (hb3.mono HB.out.size)); clear hb2 ho2 ho3 hb3 hz2)
        | (refine wpList_load_mid rfl 68 (.tmp 33) rfl w1.heap.size 0 (by kernel_rfl) ((sbB N q).map B8) (.array 64 5) HRN.out (by kernel_rfl) rfl (by rw [List.length_map, sbB_len]; kernel_rfl) ?_)
        | (refine wpList_store_mid rfl 68 (.tmp 2) (.tmp 34) rfl (w.heap.size + 1) 0 ((sbB N q).map B8).toArray (by kernel_rfl) (by kernel_rfl) TH.out SI.out S1.out ?_))
      try go_frame
      have hh : (w2.setCells (w.heap.size + 1) 0 ((sbB N q).map B8)).heap[w.heap.size + 1]? = some (.cells ((sbB N q).map B8).toArray 68 (0, 0)) := by
        rw [heap_setCells (w.heap.size + 1) _ ((sbB N q).map B8) 0 w2 Z HZ2.out (by rw [List.length_map, sbB_len, HZL.out]; omega)]
        simp [splice, sbB_len, HZL.out]
      refine bodyPost_ret (results_cell_row rfl _ _ (w.heap.size + 1) 68 ((sbB N q).map B8).toArray (0, 0) (.array 64 5) rfl hh (by kernel_rfl) rfl SI.out) rfl ?_
      have h5 : Gr (fun k => k = w.heap.size + 1) w2 (w2.setCells (w.heap.size + 1) 0 ((sbB N q).map B8)) := Gr.setCells w2 (w.heap.size + 1) _ _ rfl
      have h7 := HB3.out
      exact ⟨rfl, h5.1.trans h7.os, h5.2.1.trans h7.tape, h5.2.2.1.trans h7.output, Nat.le_trans h7.size h5.size, fun k hk => (h5.block (Nat.lt_of_lt_of_le hk h7.size) (by omega)).trans (h7.block k hk)⟩
end Go.Proofs.Ytmljacjbpcgijaa
