/- Package seek: Compile, of every text. -/
import Derived.Test.YtodooppapciegaaGreatDoorURef2Joined
import Derived.Test.YtodooppapciegaaGreatDoorXRd
import Derived.Test.YtodooppapciegaaGreatDoorXEscM
import Derived.Test.YtodooppapciegaaGreatDoorSJump
import Derived.Deep.DeepCutAuto
import Derived.Test.YtodooppapciegaaGreatDoorXRdM
import Derived.Test.YtodooppapciegaaGreatDoorXBack
import Derived.Test.YtodooppapciegaaGreatDoorXRunG
import Derived.Test.YtodooppapciegaaGreatDoorXReadW
import Derived.Test.YtodooppapciegaaGreatDoorXRunI
import Derived.Deep.RegionWith
import Derived.Test.YtodooppapciegaaGreatDoorXPlMJoined
import Derived.Test.YtodooppapciegaaGreatDoorXMatch
namespace Go.Proofs.YtodooppapciegaaGreatDoor
open Go.RowKit Go.Shelf
set_option linter.unusedVariables false
set_option linter.unusedSimpArgs false
theorem all_any (D : Nat → Prop) (its : List Kd) (txt s : ByteArray) (w : World) (pb : Nat) (h : PatL D its txt w pb) :
    Calls Tryz.prog 8 #[.pointer (some ⟨pb, 0, none⟩), .string s] w fun e w' => e = .returned (.func (.func 37) #[] #[.pointer (some ⟨w.heap.size, 0, none⟩), .pointer (some ⟨w.heap.size + 1, 0, none⟩), .pointer (some ⟨w.heap.size + 1 + 1, 0, none⟩)]) ∧
      w' = ((w.alloc (.cells #[.pointer (some ⟨pb, 0, none⟩)] 22)).alloc (.cells #[.string s] 9)).alloc (.cells #[.int .i64 0] 3) := by
  have kn := none_made pb true w h.made
  have kp := pieces_any pb s 0 w
  have KN := hide kn
  have KPP := hide kp
  clear kn kp
  go_enter Tryz.func8, Tryz.ntmps8
  go_wp2_with (first
    | (go_at_call 16; refine (KN.out).mono ?_; rintro e x ⟨rfl, rfl⟩)
    | (go_at_call 18; refine (KPP.out).mono ?_; rintro e x2 ⟨rfl, rfl⟩))
  go_ret
  exact ⟨rfl, rfl⟩
end Go.Proofs.YtodooppapciegaaGreatDoor
namespace Go.Proofs.YtodooppapciegaaGreatDoor
open Go.RowKit Go.Shelf
set_option linter.unusedVariables false
set_option linter.unusedSimpArgs false

theorem xscope1 {P : Program} {a : Act} {w : World} {Q : Exit → Act → World → Prop} {c R0 : Code} (J : Act → World → Prop) (μ : Act → World → Nat) (h0 : findLabel c 0 = some (Code.skip.seq R0))
    (p0 : ∀ a w, J a w → R0.wp P (jumpA (fun l a' w' => l = 0 ∧ J a' w' ∧ μ a' w' < μ a w) Q) a w)
    (first : (∀ a w, J a w → R0.wp P (jumpA (fun l a' w' => l = 0 ∧ J a' w') Q) a w) → c.wp P (jumpA (fun l a' w' => l = 0 ∧ J a' w') Q) a w) : (Code.scope c).wp P Q a w := by
  refine wp_scope_all (fun l a w => l = 0 ∧ J a w) (fun _ a w => μ a w) (first fun a w h => Code.wp_mono (jumpA_mono fun _ _ _ k => ⟨k.1, k.2.1⟩) (p0 a w h)) fun l a w h => ?_
  obtain ⟨rfl, h⟩ := h
  exact ⟨_, h0, wp_seq (wp_skip (Code.wp_mono (jumpA_mono fun _ _ _ k => ⟨⟨k.1, k.2.1⟩, k.2.2⟩) (p0 a w h)))⟩
/-- An activation: some of its slots. -/
def Sn (n : Nat) (x : Act) (ps : List (Nat × Value)) : Prop := x.tmps.size = n ∧ x.defers = [] ∧ ∀ t ∈ ps, x.tmps[t.1]? = some t.2
theorem list_rangeN (l : List Value) : l = (List.range l.length).map fun i => l.getD i undef := by
  refine List.ext_getElem? fun i => ?_
  by_cases h : i < l.length
  · rw [List.getElem?_map, List.getElem?_range h, List.getElem?_eq_getElem h]
    simp [List.getD, h]
  · rw [List.getElem?_eq_none (by omega), List.getElem?_eq_none (by simp; omega)]
theorem sn_get {n : Nat} {x : Act} {ps : List (Nat × Value)} (h : Sn n x ps) : ∃ T : Nat → Value, x = { tmps := ((List.range n).map T).toArray, defers := [] } ∧ ∀ t ∈ ps, T t.1 = t.2 := by
  obtain ⟨h1, h2, h3⟩ := h
  obtain ⟨tm, df⟩ := x
  simp only at h1 h2 h3
  subst h2
  have hl : tm.toList.length = n := h1
  have k := list_rangeN tm.toList
  rw [hl] at k
  refine ⟨fun i => tm.toList.getD i undef, ?_, fun t ht => ?_⟩
  · have : tm = ((List.range n).map fun i => tm.toList.getD i undef).toArray := by
      apply Array.toList_inj.1
      exact k
    exact congrArg (fun m => ({ tmps := m, defers := [] } : Act)) this
  · have h4 := h3 t ht
    rw [← Array.getElem?_toList] at h4
    simp [List.getD, h4]
theorem sn_nil {n : Nat} {x : Act} (h1 : x.tmps.size = n) (h2 : x.defers = []) : Sn n x [] := ⟨h1, h2, fun t ht => absurd ht (by simp)⟩
theorem Sn.and {n i : Nat} {x : Act} {v : Value} {ps : List (Nat × Value)} (h : Sn n x ps) (hv : x.tmps[i]? = some v) : Sn n x ((i, v) :: ps) :=
  ⟨h.1, h.2.1, fun t ht => by
    rcases List.mem_cons.1 ht with rfl | ht
    · exact hv
    · exact h.2.2 t ht⟩
theorem xor16 (a v : Nat) (ha : a < 16777216) (hv : v ≤ 15) : bits BinOp.or IntKind.i32 ((a : Int) * 16) (v : Int) = ((16 * a + v : Nat) : Int) := by
  have h : bits BinOp.or IntKind.i32 ((a : Int) * 16) (v : Int) = (a : Int) * 16 + (v : Int) := bits_join .i32 31 (by decide) wraps_i32 4 ((a : Int) * 16) (v : Int) (by omega) (by omega) (by omega) (by omega) (by omega) (by omega)
  rw [h]; push_cast; omega
/-- What a digit of sixteen says. -/
def hexX (b : Nat) : Option Nat := if 48 ≤ b ∧ b ≤ 57 then some (b - 48) else if 97 ≤ b ∧ b ≤ 102 then some (b - 97 + 10) else if 65 ≤ b ∧ b ≤ 70 then some (b - 65 + 10) else none
/-- Digits, at most so many: what they say, and how many there are. -/
def dgX : Nat → Nat → List UInt8 → Nat × Nat
  | 0, a, _ => (a, 0)
  | _ + 1, a, [] => (a, 0)
  | m + 1, a, b :: t => match hexX b.toNat with
    | some h => ((dgX m (16 * a + h) t).1, (dgX m (16 * a + h) t).2 + 1)
    | none => (a, 0)
/-- Where the digits stand on their way. -/
def DJ (w : World) (b : Nat) (s : ByteArray) (p least most : Nat) (f : Bool) (v : Value) (T : Nat × Nat) (x : Act) (wr : World) : Prop :=
  ∃ (a k : Nat), Sn 85 x [(0, .pointer (some ⟨b, 0, none⟩)), (1, .int .i64 (least : Int)), (2, .int .i64 (most : Int)), (8, .int .i32 (a : Int)), (9, .int .i64 (k : Int))] ∧ k ≤ most ∧ p + k ≤ s.size ∧ a < 16 ^ k ∧ T = ((dgX (most - k) a ((bl s).drop (p + k))).1, (dgX (most - k) a ((bl s).drop (p + k))).2 + k) ∧ Rx wr b s (p + k) f v ∧ w.grownBy wr (some b)
theorem sn5 {x : Act} {v0 v1 v2 v8 v9 : Value} (h1 : x.tmps.size = 85) (h2 : x.defers = []) (e0 : x.tmps[0]? = some v0) (e1 : x.tmps[1]? = some v1) (e2 : x.tmps[2]? = some v2) (e8 : x.tmps[8]? = some v8) (e9 : x.tmps[9]? = some v9) : Sn 85 x [(0, v0), (1, v1), (2, v2), (8, v8), (9, v9)] :=
  ((((((sn_nil h1 h2).and e9).and e8).and e2).and e1).and e0)
set_option maxRecDepth 100000 in
set_option maxHeartbeats 8000000 in
theorem xdigits_any (b : Nat) (s : ByteArray) (p least most : Nat) (f : Bool) (v : Value) (w : World) (h : Rx w b s p f v) (hp : p ≤ s.size) (hs : s.size ≤ 140737488355328) (hm : most ≤ 6) (hl : least ≤ 6) :
    Calls Tryz.prog 69 #[.pointer (some ⟨b, 0, none⟩), .int .i64 (least : Int), .int .i64 (most : Int)] w fun e w' => e = .returned (.tuple #[.int .i32 ((dgX most 0 ((bl s).drop p)).1 : Int), .bool (decide (least ≤ (dgX most 0 ((bl s).drop p)).2))]) ∧ Rx w' b s (p + (dgX most 0 ((bl s).drop p)).2) f v ∧ w.grownBy w' (some b) := by
  obtain ⟨T, hT⟩ : ∃ T, T = dgX most 0 ((bl s).drop p) := ⟨_, rfl⟩
  rw [← hT]
  have HR := hide h
  have HT := hide hT
  clear h hT
  go_enter Tryz.func69, Tryz.ntmps69
  go_wp2_with (fail)
  refine xscope1 (DJ w b s p least most f v T) (fun _ wr => s.size - (intOf ((wr.cell? ⟨b, 1, none⟩).getD undef)).toNat) rfl ?_ ?_
  · intro x wr hJ
    obtain ⟨a, k, hSn, hk, hpk, ha, hTT, hRd, hgr⟩ := hJ
    obtain ⟨T', rfl, hT'⟩ := sn_get hSn
    have e0 : T' 0 = .pointer (some ⟨b, 0, none⟩) := hT' (0, .pointer (some ⟨b, 0, none⟩)) (by simp)
    have e1 : T' 1 = .int .i64 (least : Int) := hT' (1, .int .i64 (least : Int)) (by simp)
    have e2 : T' 2 = .int .i64 (most : Int) := hT' (2, .int .i64 (most : Int)) (by simp)
    have e8 : T' 8 = .int .i32 (a : Int) := hT' (8, .int .i32 (a : Int)) (by simp)
    have e9 : T' 9 = .int .i64 (k : Int) := hT' (9, .int .i64 (k : Int)) (by simp)
    have hact : ((List.range 85).map T').toArray = #[T' 0, T' 1, T' 2, T' 3, T' 4, T' 5, T' 6, T' 7, T' 8, T' 9, T' 10, T' 11, T' 12, T' 13, T' 14, T' 15, T' 16, T' 17, T' 18, T' 19, T' 20, T' 21, T' 22, T' 23, T' 24, T' 25, T' 26, T' 27, T' 28, T' 29, T' 30, T' 31, T' 32, T' 33, T' 34, T' 35, T' 36, T' 37, T' 38, T' 39, T' 40, T' 41, T' 42, T' 43, T' 44, T' 45, T' 46, T' 47, T' 48, T' 49, T' 50, T' 51, T' 52, T' 53, T' 54, T' 55, T' 56, T' 57, T' 58, T' 59, T' 60, T' 61, T' 62, T' 63, T' 64, T' 65, T' 66, T' 67, T' 68, T' 69, T' 70, T' 71, T' 72, T' 73, T' 74, T' 75, T' 76, T' 77, T' 78, T' 79, T' 80, T' 81, T' 82, T' 83, T' 84] := rfl
    rw [hact, e0, e1, e2, e8, e9]
    clear hact e0 e1 e2 e8 e9 hT' hSn
    have hmu : s.size - (intOf ((wr.cell? ⟨b, 1, none⟩).getD undef)).toNat = s.size - (p + k) := by rw [hRd.at]; simp [intOf]; omega
    rw [hmu]
    clear hmu
    obtain ⟨q, hq⟩ : ∃ q, p + k = q := ⟨_, rfl⟩
    rw [hq] at hpk hTT hRd
    rw [hq]
    have HQ := hide hq
    have HRD := hide hRd
    have HGR := hide hgr
    have hqI : (q : Int) ≤ 140737488355328 := by omega
    have ha2 : a < 16777216 := Nat.lt_of_lt_of_le ha (Nat.le_trans (Nat.pow_le_pow_right (by omega) (show k ≤ 6 by omega)) (by decide))
    clear hRd hgr hq
    by_cases hkm : k = most
    · subst hkm
      rw [Nat.sub_self] at hTT
      have HD := hide hTT
      clear hTT
      go_wp2_with (fail)
      rw [jumpA_ret]
      go_ret2
      have hT2 : T = (a, k) := by rw [HD.out]; simp [dgX]
      rw [hT2]
      refine ⟨?_, by rw [HQ.out]; exact HRD.out, HGR.out⟩
      simp
    · have hkI : (k : Int) < (most : Int) := by omega
      obtain ⟨m, hmm⟩ : ∃ m, most - k = m + 1 := ⟨most - k - 1, by omega⟩
      rw [hmm] at hTT
      by_cases hlt : q < s.size
      · have hdn : decide (q = s.size) = false := decide_eq_false (by omega)
        have hlb : q < (bl s).length := by rw [bl_len]; exact hlt
        rw [List.drop_eq_getElem_cons hlb] at hTT
        simp only [dgX] at hTT
        have hge : ((bl s)[q]).toNat = by' (bl s) q := by unfold by'; rw [List.getElem?_eq_getElem hlb]; rfl
        rw [hge] at hTT
        have ix := fun W => idx_by s q hlt W
        obtain ⟨y, hy⟩ : ∃ y, y = by' (bl s) q := ⟨_, rfl⟩
        have hy8 : y < 256 := by rw [hy]; exact by'_lt _ _
        rw [← hy] at hTT ix
        clear hge hy
        have HD := hide hTT
        clear hTT
        go_wp2_with (first | (go_at_call 24; refine (xdone_any b s q f v _ HRD.out hpk).mono ?_; rintro e x ⟨rfl, n1, rfl⟩; rw [hdn]))
        have HR1 := hide (HRD.out.drewN n1)
        have HG1 := hide (grownX_trans HGR.out (grownX_drewN wr n1 _))
        generalize wr.drewN n1 = W1 at *
        have c0 := HR1.out.text
        have c1 := HR1.out.at
        have cf := HR1.out.frz
        clear HR HRD HGR
        go_quiet (fail)
        go_wp2_with (fail)
        all_goals try (
          rw [jumpA_ret]
          go_ret2
          have hx : hexX y = none := by unfold hexX; rw [if_neg (by omega), if_neg (by omega), if_neg (by omega)]
          have hT3 := HD.out
          rw [hx] at hT3
          simp only [Nat.zero_add] at hT3
          rw [hT3]
          refine ⟨?_, by rw [HQ.out]; exact HR1.out.drewN nq, grownX_trans HG1.out (grownX_drewN W1 nq _)⟩
          simp)
        · have hy15 : y - 48 ≤ 15 := by omega
          have e9 : bits BinOp.or IntKind.i32 ((a : Int) * 16) ((y : Int) - 48) = ((16 * a + (y - 48) : Nat) : Int) := by
            rw [show (y : Int) - 48 = ((y - 48 : Nat) : Int) by omega]
            exact xor16 a (y - 48) ha2 hy15
          rw [e9]
          have hx : hexX y = some (y - 48) := by
            unfold hexX
            first
              | rw [if_pos (by omega)]
              | rw [if_neg (by omega), if_pos (by omega)]
              | rw [if_neg (by omega), if_neg (by omega), if_pos (by omega)]
          have hT3 := HD.out
          rw [hx] at hT3
          simp only at hT3
          try go_step3
          have hR9 := (HR1.out.drewN nq).set (q + 1)
          have eq1 : (q : Int) + 1 = ((q + 1 : Nat) : Int) := by push_cast; rfl
          have ek1 : (k : Int) + 1 = ((k + 1 : Nat) : Int) := by push_cast; rfl
          rw [eq1, ek1]
          have h16 : 16 ^ (k + 1) = 16 * 16 ^ k := by rw [Nat.pow_succ, Nat.mul_comm]
          have hqq := HQ.out
          refine (show _ ∧ DJ w b s p least most f v _ _ _ ∧ _ from ⟨rfl, ⟨16 * a + (y - 48), k + 1, sn5 rfl rfl rfl rfl rfl rfl rfl, by omega, by omega, by omega, ?_, ?_, ?_⟩, ?_⟩)
          · rw [show most - (k + 1) = m by omega, show p + (k + 1) = q + 1 by omega, hT3]
            congr 1
            omega
          · rw [show p + (k + 1) = q + 1 by omega]; exact hR9
          · exact grownX_trans (grownX_trans HG1.out (grownX_drewN W1 nq _)) (grownX_set _ _ _ _)
          · rw [hR9.at]; simp [intOf]; omega
        · have hy15 : y - 97 + 10 ≤ 15 := by omega
          have e9 : bits BinOp.or IntKind.i32 ((a : Int) * 16) ((y : Int) - 97 + 10) = ((16 * a + (y - 97 + 10) : Nat) : Int) := by
            rw [show (y : Int) - 97 + 10 = ((y - 97 + 10 : Nat) : Int) by omega]
            exact xor16 a (y - 97 + 10) ha2 hy15
          rw [e9]
          have hx : hexX y = some (y - 97 + 10) := by
            unfold hexX
            first
              | rw [if_pos (by omega)]
              | rw [if_neg (by omega), if_pos (by omega)]
              | rw [if_neg (by omega), if_neg (by omega), if_pos (by omega)]
          have hT3 := HD.out
          rw [hx] at hT3
          simp only at hT3
          try go_step3
          have hR9 := (HR1.out.drewN nq).set (q + 1)
          have eq1 : (q : Int) + 1 = ((q + 1 : Nat) : Int) := by push_cast; rfl
          have ek1 : (k : Int) + 1 = ((k + 1 : Nat) : Int) := by push_cast; rfl
          rw [eq1, ek1]
          have h16 : 16 ^ (k + 1) = 16 * 16 ^ k := by rw [Nat.pow_succ, Nat.mul_comm]
          have hqq := HQ.out
          refine (show _ ∧ DJ w b s p least most f v _ _ _ ∧ _ from ⟨rfl, ⟨16 * a + (y - 97 + 10), k + 1, sn5 rfl rfl rfl rfl rfl rfl rfl, by omega, by omega, by omega, ?_, ?_, ?_⟩, ?_⟩)
          · rw [show most - (k + 1) = m by omega, show p + (k + 1) = q + 1 by omega, hT3]
            congr 1
            omega
          · rw [show p + (k + 1) = q + 1 by omega]; exact hR9
          · exact grownX_trans (grownX_trans HG1.out (grownX_drewN W1 nq _)) (grownX_set _ _ _ _)
          · rw [hR9.at]; simp [intOf]; omega
        · have hy15 : y - 65 + 10 ≤ 15 := by omega
          have e9 : bits BinOp.or IntKind.i32 ((a : Int) * 16) ((y : Int) - 65 + 10) = ((16 * a + (y - 65 + 10) : Nat) : Int) := by
            rw [show (y : Int) - 65 + 10 = ((y - 65 + 10 : Nat) : Int) by omega]
            exact xor16 a (y - 65 + 10) ha2 hy15
          rw [e9]
          have hx : hexX y = some (y - 65 + 10) := by
            unfold hexX
            first
              | rw [if_pos (by omega)]
              | rw [if_neg (by omega), if_pos (by omega)]
              | rw [if_neg (by omega), if_neg (by omega), if_pos (by omega)]
          have hT3 := HD.out
          rw [hx] at hT3
          simp only at hT3
          try go_step3
          have hR9 := (HR1.out.drewN nq).set (q + 1)
          have eq1 : (q : Int) + 1 = ((q + 1 : Nat) : Int) := by push_cast; rfl
          have ek1 : (k : Int) + 1 = ((k + 1 : Nat) : Int) := by push_cast; rfl
          rw [eq1, ek1]
          have h16 : 16 ^ (k + 1) = 16 * 16 ^ k := by rw [Nat.pow_succ, Nat.mul_comm]
          have hqq := HQ.out
          refine (show _ ∧ DJ w b s p least most f v _ _ _ ∧ _ from ⟨rfl, ⟨16 * a + (y - 65 + 10), k + 1, sn5 rfl rfl rfl rfl rfl rfl rfl, by omega, by omega, by omega, ?_, ?_, ?_⟩, ?_⟩)
          · rw [show most - (k + 1) = m by omega, show p + (k + 1) = q + 1 by omega, hT3]
            congr 1
            omega
          · rw [show p + (k + 1) = q + 1 by omega]; exact hR9
          · exact grownX_trans (grownX_trans HG1.out (grownX_drewN W1 nq _)) (grownX_set _ _ _ _)
          · rw [hR9.at]; simp [intOf]; omega
      · have hdn : decide (q = s.size) = true := decide_eq_true (by omega)
        have hdr : (bl s).drop q = [] := List.drop_eq_nil_of_le (by rw [bl_len]; omega)
        rw [hdr] at hTT
        have HD := hide hTT
        clear hTT
        go_wp2_with (first | (go_at_call 24; refine (xdone_any b s q f v _ HRD.out hpk).mono ?_; rintro e x ⟨rfl, n1, rfl⟩; rw [hdn]))
        rw [jumpA_ret]
        go_ret2
        have hT2 : T = (a, k) := by rw [HD.out]; simp [dgX]
        rw [hT2]
        refine ⟨?_, by rw [HQ.out]; exact HRD.out.drewN n1, grownX_trans HGR.out (grownX_drewN wr n1 _)⟩
        simp
  · intro hst
    have HST := hide hst
    clear hst
    go_wp2_with (fail)
    refine wp_label ?_
    rename_i K9 hK9
    refine hK9 _ _ (HST.out _ _ ⟨0, 0, sn5 rfl rfl rfl rfl rfl rfl rfl, Nat.zero_le _, hp, by decide, ?_, ?_, ?_⟩)
    · rw [HT.out]; simp
    · exact HR.out
    · exact grownX_drewN w 0 _
end Go.Proofs.YtodooppapciegaaGreatDoor
namespace Go.Proofs.YtodooppapciegaaGreatDoor
open Go.RowKit Go.Shelf
set_option linter.unusedVariables false
set_option linter.unusedSimpArgs false

def validB (a : Int) : Bool := decide ((0 ≤ a ∧ a < 55296) ∨ (57343 < a ∧ a ≤ 1114111))
set_option maxHeartbeats 1000000 in
theorem xvalid_any (a : Int) (w : World) : Calls Tryz.prog 70 #[.int .i32 a] w fun e w' => e = .returned (.bool (validB a)) ∧ w' = w := by
  unfold validB
  by_cases h1 : 0 ≤ a
  · by_cases h2 : a < 55296
    · rw [decide_eq_true (.inl ⟨h1, h2⟩)]
      go_enter Tryz.func70, Tryz.ntmps70
      go_wp2
      go_ret
      exact ⟨rfl, rfl⟩
    · have h2 : 55296 ≤ a := by omega
      by_cases h3 : 57343 < a
      · by_cases h4 : a ≤ 1114111
        · rw [decide_eq_true (.inr ⟨h3, h4⟩)]
          go_enter Tryz.func70, Tryz.ntmps70
          go_wp2
          go_ret
          exact ⟨rfl, rfl⟩
        · have h4 : 1114111 < a := by omega
          rw [decide_eq_false (by omega)]
          go_enter Tryz.func70, Tryz.ntmps70
          go_wp2
          go_ret
          exact ⟨rfl, rfl⟩
      · have h3 : a ≤ 57343 := by omega
        rw [decide_eq_false (by omega)]
        go_enter Tryz.func70, Tryz.ntmps70
        go_wp2
        go_ret
        exact ⟨rfl, rfl⟩
  · have h1 : a < 0 := by omega
    rw [decide_eq_false (by omega)]
    go_enter Tryz.func70, Tryz.ntmps70
    go_wp2
    go_ret
    exact ⟨rfl, rfl⟩
/-- What stands behind a backslash. -/
def escF (s : ByteArray) (p : Nat) : Wr × Nat :=
  if s.size ≤ p then (.bad, p)
  else if xAt s p 119 = true then (.kind wordP, p + 1)
  else if xAt s p 87 = true then (.kind (fun c => !wordP c), p + 1)
  else if xAt s p 115 = true then (.kind blankP, p + 1)
  else if xAt s p 83 = true then (.kind (fun c => !blankP c), p + 1)
  else if xAt s p 110 = true then (.one (10, true), p + 1)
  else if xAt s p 114 = true then (.one (13, true), p + 1)
  else if xAt s p 116 = true then (.one (9, true), p + 1)
  else if xAt s p 120 = true then
    (if 2 ≤ (dgX 2 0 ((bl s).drop (p + 1))).2 then (.one (((dgX 2 0 ((bl s).drop (p + 1))).1 : Int), decide (((dgX 2 0 ((bl s).drop (p + 1))).1 : Int) < 128)), p + 1 + (dgX 2 0 ((bl s).drop (p + 1))).2) else (.bad, p + 1 + (dgX 2 0 ((bl s).drop (p + 1))).2))
  else if xAt s p 117 = true then
    (if xAt s (p + 1) 123 = true then
      (if 1 ≤ (dgX 6 0 ((bl s).drop (p + 2))).2 ∧ xAt s (p + 2 + (dgX 6 0 ((bl s).drop (p + 2))).2) 125 = true then
        (if validB ((dgX 6 0 ((bl s).drop (p + 2))).1 : Int) = true then (.one (((dgX 6 0 ((bl s).drop (p + 2))).1 : Int), true), p + 2 + (dgX 6 0 ((bl s).drop (p + 2))).2 + 1) else (.bad, p + 2 + (dgX 6 0 ((bl s).drop (p + 2))).2))
      else (.bad, p + 2 + (dgX 6 0 ((bl s).drop (p + 2))).2))
    else (.bad, p + 1))
  else if mkB (by' (bl s) p) = true then (.one ((by' (bl s) p : Int), true), p + 1)
  else (.bad, p)
/-- escaped on its way. -/
structure Esg (w0 : World) (b : Nat) (s : ByteArray) (f : Bool) (wr : World) (p : Nat) (v : Value) : Prop where
  rx : Rx wr b s p f v
  lt : b < w0.heap.size
  gr : GrX (fun j => j = b) w0 wr
  r3 : wr.heap[w0.heap.size]? = some (.cells #[.int .i32 0, .bool false] 71 (0, 0))
  s5 : wr.heap[w0.heap.size + 1]? = some (.cells #[.int .i32 0, .bool false] 71 (0, 0))
section
variable {w0 wr w' : World} {b p p' : Nat} {s : ByteArray} {f : Bool} {v : Value}
theorem Esg.frame (h : Esg w0 b s f wr p v) (hg : GrX (fun j => j = b) wr w') (hr : Rx w' b s p' f v) : Esg w0 b s f w' p' v := by
  have hlt := h.lt
  exact ⟨hr, hlt, h.gr.trans hg, (hg.2.2.2.2 _ (Array.getElem?_eq_some_iff.1 h.r3).1 (fun e => by omega)).trans h.r3, (hg.2.2.2.2 _ (Array.getElem?_eq_some_iff.1 h.s5).1 (fun e => by omega)).trans h.s5⟩
theorem esg_done (h : Esg w0 b s f wr p v) (hp : p ≤ s.size) :
    Calls Tryz.prog 24 #[.pointer (some ⟨b, 0, none⟩)] wr fun e w' => e = .returned (.bool (decide (p = s.size))) ∧ Esg w0 b s f w' p v :=
  (xdone_any b s p f v wr h.rx hp).mono fun e w' ⟨he, n, hn⟩ => ⟨he, by rw [hn]; exact h.frame (GrX.of_below ⟨rfl, rfl, rfl, Nat.le_refl _, fun _ _ => rfl⟩) (h.rx.drewN n)⟩
theorem esg_takes (h : Esg w0 b s f wr p v) (hp : p ≤ s.size) (hs : s.size ≤ 140737488355328) (m : Nat) :
    Calls Tryz.prog 25 #[.pointer (some ⟨b, 0, none⟩), .int .u8 (m : Int)] wr fun e w' => e = .returned (.bool (xAt s p m)) ∧ Esg w0 b s f w' (if xAt s p m = true then p + 1 else p) v :=
  (xtakes_any b s p m f v wr h.rx hp hs).mono fun e w' ⟨he, hr, hg⟩ => ⟨he, h.frame (GrX.of_grown hg (fun j hj => .inl (by cases hj; rfl))) hr⟩
theorem esg_digits (h : Esg w0 b s f wr p v) (hp : p ≤ s.size) (hs : s.size ≤ 140737488355328) (least most : Nat) (hm : most ≤ 6) (hl : least ≤ 6) :
    Calls Tryz.prog 69 #[.pointer (some ⟨b, 0, none⟩), .int .i64 (least : Int), .int .i64 (most : Int)] wr fun e w' => e = .returned (.tuple #[.int .i32 ((dgX most 0 ((bl s).drop p)).1 : Int), .bool (decide (least ≤ (dgX most 0 ((bl s).drop p)).2))]) ∧ Esg w0 b s f w' (p + (dgX most 0 ((bl s).drop p)).2) v :=
  (xdigits_any b s p least most f v wr h.rx hp hs hm hl).mono fun e w' ⟨he, hr, hg⟩ => ⟨he, h.frame (GrX.of_grown hg (fun j hj => .inl (by cases hj; rfl))) hr⟩
/-- The result's character is written. -/
theorem Esg.res (h : Esg w0 b s f wr p v) (c0 : Int) (c1 : Bool) :
    Rx ((wr.setCell ⟨w0.heap.size, 0, none⟩ (.int .i32 c0)).setCell ⟨w0.heap.size, 1, none⟩ (.bool c1)) b s p f v ∧ GrX (fun j => j = b) w0 ((wr.setCell ⟨w0.heap.size, 0, none⟩ (.int .i32 c0)).setCell ⟨w0.heap.size, 1, none⟩ (.bool c1)) ∧
    ((wr.setCell ⟨w0.heap.size, 0, none⟩ (.int .i32 c0)).setCell ⟨w0.heap.size, 1, none⟩ (.bool c1)).heap[w0.heap.size]? = some (.cells #[.int .i32 c0, .bool c1] 71 (0, 0)) :=
  ⟨wrt_rx h.rx (fun e => by have := h.lt; omega), (h.gr.setNew (Nat.le_refl _)).setNew (Nat.le_refl _), heap_setCell_same _ _ 1 _ _ _ (heap_setCell_same wr _ 0 _ _ _ h.r3)⟩
/-- The single character's variable is written. -/
theorem Esg.sng (h : Esg w0 b s f wr p v) (c0 : Int) (c1 : Bool) :
    Rx ((wr.setCell ⟨w0.heap.size + 1, 0, none⟩ (.int .i32 c0)).setCell ⟨w0.heap.size + 1, 1, none⟩ (.bool c1)) b s p f v ∧ GrX (fun j => j = b) w0 ((wr.setCell ⟨w0.heap.size + 1, 0, none⟩ (.int .i32 c0)).setCell ⟨w0.heap.size + 1, 1, none⟩ (.bool c1)) ∧
    ((wr.setCell ⟨w0.heap.size + 1, 0, none⟩ (.int .i32 c0)).setCell ⟨w0.heap.size + 1, 1, none⟩ (.bool c1)).heap[w0.heap.size]? = some (.cells #[.int .i32 0, .bool false] 71 (0, 0)) ∧
    ((wr.setCell ⟨w0.heap.size + 1, 0, none⟩ (.int .i32 c0)).setCell ⟨w0.heap.size + 1, 1, none⟩ (.bool c1)).heap[w0.heap.size + 1]? = some (.cells #[.int .i32 c0, .bool c1] 71 (0, 0)) :=
  ⟨wrt_rx h.rx (fun e => by have := h.lt; omega), (h.gr.setNew (Nat.le_add_right _ _)).setNew (Nat.le_add_right _ _), (heap_setCell_other _ ⟨w0.heap.size + 1, 1, none⟩ _ _ (Nat.ne_of_lt (Nat.lt_succ_self _))).trans ((heap_setCell_other _ ⟨w0.heap.size + 1, 0, none⟩ _ _ (Nat.ne_of_lt (Nat.lt_succ_self _))).trans h.r3), heap_setCell_same _ _ 1 _ _ _ (heap_setCell_same wr _ 0 _ _ _ h.s5)⟩
end
/-- What escaped tells, from behind the backslash on. -/
def EsV (w : World) (b : Nat) (s : ByteArray) (f : Bool) (v : Value) (o : Wr) (q : Nat) (e : Ending) (w' : World) : Prop := Rx w' b s q f v ∧ GrX (fun j => j = b) w w' ∧
    ∃ u c0 c1, (match o with
      | .bad => e = .returned (.tuple #[u, .agg #[.int .i32 c0, .bool c1], .bool false]) ∧ u = .nilFunc
      | .kind P => e = .returned (.tuple #[u, .agg #[.int .i32 c0, .bool c1], .bool true]) ∧ PartO (fun _ => False) w.heap.size w' u P
      | .one c => e = .returned (.tuple #[u, .agg #[.int .i32 c0, .bool c1], .bool true]) ∧ u = .nilFunc ∧ c = (c0, c1))
theorem dgX_len : ∀ (m a : Nat) (l : List UInt8), (dgX m a l).2 ≤ l.length
  | 0, a, l => Nat.zero_le _
  | m + 1, a, [] => Nat.zero_le _
  | m + 1, a, b :: t => by
    unfold dgX
    split
    · rename_i h _
      simp only [List.length_cons]
      exact Nat.succ_le_succ (dgX_len m (16 * a + h) t)
    · exact Nat.zero_le _
theorem last_mark {s : ByteArray} {p m : Nat} (h : xAt s p m = true) (hm : m < 128) : (lastV (bl (s.extract 0 (p + 1)))).2.1 = ((1 : Nat) : Int) := by
  have hlt := xAt_lt h
  have hby : by' (bl s) p = m := by
    unfold xAt at h
    simp at h
    exact h.2
  rw [bl_to]
  have hlen : ((bl s).take (p + 1)).length = p + 1 := by rw [List.length_take, bl_len]; omega
  have hbt : by' ((bl s).take (p + 1)) p = m := by
    rw [← hby]
    unfold by'
    rw [List.getElem?_take, if_pos (Nat.lt_succ_self p)]
  generalize (bl s).take (p + 1) = l at *
  have hl : l ≠ [] := fun e => by rw [e] at hlen; simp at hlen
  obtain ⟨h1, h2, _⟩ := last_iff l hl
  have h3 := St_lt h1
  have h4 := cw_pos (l.drop (lastAt l))
  have hc : cw (l.drop (lastAt l)) = 1 := by
    by_cases g : cw (l.drop (lastAt l)) = 1
    · exact g
    · have g2 : 1 < cw (l.drop (lastAt l)) := by omega
      have g3 := cw_big g2
      have g4 := W_co (l.drop (lastAt l)) (p - lastAt l) (by omega) (by omega)
      unfold Co at g4
      rw [by'_drop, show lastAt l + (p - lastAt l) = p by omega, hbt] at g4
      omega
  unfold lastV
  rw [if_neg hl, firstV_ne (drop_ne h3), hc]
set_option maxRecDepth 100000 in
set_option maxHeartbeats 8000000 in
theorem xescaped_nomark (b : Nat) (s : ByteArray) (p : Nat) (f : Bool) (v : Value) (w : World) (h : Rx w b s p f v) (hp : p ≤ s.size) (hs : s.size ≤ 65536) (o : Wr) (q : Nat) (ho : escF s p = (o, q)) (hmk : mkB (by' (bl s) p) = false) :
    Calls Tryz.prog 49 #[.pointer (some ⟨b, 0, none⟩)] w fun e w' => EsV w b s f v o q e w' := by
  have HO := hide ho
  have HMK := hide hmk
  clear ho hmk
  obtain ⟨X, hX⟩ : ∃ X, X = (w.alloc (.cells #[.int .i32 0, .bool false] 71)).alloc (.cells #[.int .i32 0, .bool false] 71) := ⟨_, rfl⟩
  have hE0 : Esg w b s f X p v := by
    have hB : Below w.heap.size w X := by rw [hX]; exact ((Below.refl _ w).alloc (Nat.le_refl _) _).alloc (by simp) _
    refine ⟨h.below hB, h.lt, GrX.of_below hB, ?_, ?_⟩
    · rw [hX]
      exact (((Below.refl _ (w.alloc (.cells #[.int .i32 0, .bool false] 71))).alloc (Nat.le_refl _) (.cells #[.int .i32 0, .bool false] 71)).block w.heap.size (by simp)).trans (heap_alloc_new w _)
    · rw [hX]
      have k := heap_alloc_new (w.alloc (.cells #[.int .i32 0, .bool false] 71)) (.cells #[.int .i32 0, .bool false] 71)
      simpa using k
  have HE := hide hE0
  have HP := hide hp
  have HS : Hid (s.size ≤ 140737488355328) := by show _ ≤ _; omega
  have HS1 := hide hs
  clear h hE0 hs
  go_enter Tryz.func49, Tryz.ntmps49
  go_wp2_with (fail)
  refine wp_scope_n 3 ?_
  go_upto_region 2 with (fail)
  rw [← hX]
  clear hX
  by_cases hd0 : s.size ≤ p
  · -- the end
    have hdn : decide (p = s.size) = true := decide_eq_true (by omega)
    have hef : escF s p = (.bad, p) := by unfold escF; rw [if_pos hd0]
    have HEF := hide hef
    clear hef hd0 hp
    go_wp2_with (first
      | (go_at_call 24; refine Calls.mono (esg_done (by exact HE.out) (by have := HP.out; omega)) ?_; rintro e x ⟨rfl, hRn⟩; replace HE := hide hRn; clear hRn; simp only [hdn]))
    try go_step3
    first | refine goto_then rfl ?_ | refine goto_plain rfl ?_ | refine goto_block rfl ?_
    obtain ⟨z0, z1, zf⟩ := chr_facts (b := b) HE.out.r3
    go_wp2_with (fail)
    rw [jumpA_ret]
    obtain ⟨k1, k2, k3⟩ := HE.out.res 0 false
    refine bodyPost_ret (results_tctX rfl _ _ w.heap.size _ _ _ _ rfl k3 Tryz.underlying71 rfl (by kernel_rfl)) rfl ?_
    obtain ⟨rfl, rfl⟩ := Prod.mk.inj (HO.out.symm.trans HEF.out)
    exact ⟨k1, k2, _, _, _, rfl, rfl⟩
  · have hdn : decide (p = s.size) = false := decide_eq_false (by omega)
    have HD0 := hide hd0
    have hlt : p < s.size := by omega
    have HLT := hide hlt
    clear hd0 hp hlt
    by_cases x119 : xAt s p 119 = true
    · skip
      have hef : escF s p = (.kind wordP, p + 1) := by unfold escF; rw [if_neg HD0.out, if_pos x119]
      have HEF := hide hef
      clear hef
      go_upto_region 4 with (first
        | (go_at_call 24; refine Calls.mono (esg_done (by exact HE.out) (by have := HP.out; omega)) ?_; rintro e x ⟨rfl, hRn⟩; replace HE := hide hRn; clear hRn; simp only [hdn])
        | (go_at_call 25; refine Calls.mono (esg_takes (by exact HE.out) (by have := HP.out; omega) HS.out _) ?_; rintro e x ⟨rfl, hRn⟩; replace HE := hide hRn; clear hRn; simp only [x119, Bool.false_eq_true, if_false, if_true] at HE ⊢))
      obtain ⟨z0, z1, zf⟩ := chr_facts (b := b) HE.out.r3
      go_wp2_with (fail)
      rw [jumpA_ret]
      obtain ⟨k1, k2, k3⟩ := HE.out.res 0 false
      refine bodyPost_ret (results_tctX rfl _ _ w.heap.size _ _ _ _ rfl k3 Tryz.underlying71 rfl (by kernel_rfl)) rfl ?_
      obtain ⟨rfl, rfl⟩ := Prod.mk.inj (HO.out.symm.trans HEF.out)
      exact ⟨k1, k2, _, _, _, rfl, ⟨fun _ => False, fun k hk => hk.elim, wordV _⟩⟩
    · have x119 : xAt s p 119 = false := by simpa using x119
      by_cases x87 : xAt s p 87 = true
      · skip
        have hef : escF s p = (.kind (fun c => !wordP c), p + 1) := by unfold escF; rw [if_neg HD0.out, if_neg (show ¬ xAt s p 119 = true by rw [x119]; simp), if_pos x87]
        have HEF := hide hef
        clear hef
        go_upto_region 6 with (first
          | (go_at_call 24; refine Calls.mono (esg_done (by exact HE.out) (by have := HP.out; omega)) ?_; rintro e x ⟨rfl, hRn⟩; replace HE := hide hRn; clear hRn; simp only [hdn])
          | (go_at_call 25; refine Calls.mono (esg_takes (by exact HE.out) (by have := HP.out; omega) HS.out _) ?_; rintro e x ⟨rfl, hRn⟩; replace HE := hide hRn; clear hRn; simp only [x119, x87, Bool.false_eq_true, if_false, if_true] at HE ⊢))
        go_wp2_with (go_at_call 66; refine Calls.mono (not_any (fun _ => False) _ wordP _ (wordV _)) ?_; rintro e y ⟨u, rfl, hpv, hb⟩; have HXS := hide (Array.getElem?_eq_some_iff.1 HE.out.s5).1; replace HE := hide (HE.out.frame (GrX.of_below hb) (HE.out.rx.below hb)); have HPV := hide hpv; obtain ⟨z0, z1, zf⟩ := chr_facts (b := b) HE.out.r3; obtain ⟨_, fu, lb, rfl, _, _⟩ := hpv; clear hb)
        rw [jumpA_ret]
        obtain ⟨k1, k2, k3⟩ := HE.out.res 0 false
        refine bodyPost_ret (results_tctX rfl _ _ w.heap.size _ _ _ _ rfl k3 Tryz.underlying71 rfl (by kernel_rfl)) rfl ?_
        obtain ⟨rfl, rfl⟩ := Prod.mk.inj (HO.out.symm.trans HEF.out)
        refine ⟨k1, k2, _, _, _, rfl, ⟨_, fun k hk => .inr ?_, HPV.out.keep ⟨by simp [World.setCell], fun k hk => ?_⟩⟩⟩
        · have h9 := HXS.out
          rcases hk with hk | hk
          · exact hk.elim
          · omega
        · have h9 := HXS.out
          have hkn : k ≠ w.heap.size := by
            rcases hk with hk | hk
            · exact hk.elim
            · omega
          exact (heap_setCell_other _ ⟨w.heap.size, 1, none⟩ k _ hkn).trans (heap_setCell_other _ ⟨w.heap.size, 0, none⟩ k _ hkn)
      · have x87 : xAt s p 87 = false := by simpa using x87
        by_cases x115 : xAt s p 115 = true
        · skip
          have hef : escF s p = (.kind blankP, p + 1) := by unfold escF; rw [if_neg HD0.out, if_neg (show ¬ xAt s p 119 = true by rw [x119]; simp), if_neg (show ¬ xAt s p 87 = true by rw [x87]; simp), if_pos x115]
          have HEF := hide hef
          clear hef
          go_upto_region 8 with (first
            | (go_at_call 24; refine Calls.mono (esg_done (by exact HE.out) (by have := HP.out; omega)) ?_; rintro e x ⟨rfl, hRn⟩; replace HE := hide hRn; clear hRn; simp only [hdn])
            | (go_at_call 25; refine Calls.mono (esg_takes (by exact HE.out) (by have := HP.out; omega) HS.out _) ?_; rintro e x ⟨rfl, hRn⟩; replace HE := hide hRn; clear hRn; simp only [x119, x87, x115, Bool.false_eq_true, if_false, if_true] at HE ⊢))
          obtain ⟨z0, z1, zf⟩ := chr_facts (b := b) HE.out.r3
          go_wp2_with (fail)
          rw [jumpA_ret]
          obtain ⟨k1, k2, k3⟩ := HE.out.res 0 false
          refine bodyPost_ret (results_tctX rfl _ _ w.heap.size _ _ _ _ rfl k3 Tryz.underlying71 rfl (by kernel_rfl)) rfl ?_
          obtain ⟨rfl, rfl⟩ := Prod.mk.inj (HO.out.symm.trans HEF.out)
          exact ⟨k1, k2, _, _, _, rfl, ⟨fun _ => False, fun k hk => hk.elim, blankV _⟩⟩
        · have x115 : xAt s p 115 = false := by simpa using x115
          by_cases x83 : xAt s p 83 = true
          · skip
            have hef : escF s p = (.kind (fun c => !blankP c), p + 1) := by unfold escF; rw [if_neg HD0.out, if_neg (show ¬ xAt s p 119 = true by rw [x119]; simp), if_neg (show ¬ xAt s p 87 = true by rw [x87]; simp), if_neg (show ¬ xAt s p 115 = true by rw [x115]; simp), if_pos x83]
            have HEF := hide hef
            clear hef
            go_upto_region 10 with (first
              | (go_at_call 24; refine Calls.mono (esg_done (by exact HE.out) (by have := HP.out; omega)) ?_; rintro e x ⟨rfl, hRn⟩; replace HE := hide hRn; clear hRn; simp only [hdn])
              | (go_at_call 25; refine Calls.mono (esg_takes (by exact HE.out) (by have := HP.out; omega) HS.out _) ?_; rintro e x ⟨rfl, hRn⟩; replace HE := hide hRn; clear hRn; simp only [x119, x87, x115, x83, Bool.false_eq_true, if_false, if_true] at HE ⊢))
            go_wp2_with (go_at_call 66; refine Calls.mono (not_any (fun _ => False) _ blankP _ (blankV _)) ?_; rintro e y ⟨u, rfl, hpv, hb⟩; have HXS := hide (Array.getElem?_eq_some_iff.1 HE.out.s5).1; replace HE := hide (HE.out.frame (GrX.of_below hb) (HE.out.rx.below hb)); have HPV := hide hpv; obtain ⟨z0, z1, zf⟩ := chr_facts (b := b) HE.out.r3; obtain ⟨_, fu, lb, rfl, _, _⟩ := hpv; clear hb)
            rw [jumpA_ret]
            obtain ⟨k1, k2, k3⟩ := HE.out.res 0 false
            refine bodyPost_ret (results_tctX rfl _ _ w.heap.size _ _ _ _ rfl k3 Tryz.underlying71 rfl (by kernel_rfl)) rfl ?_
            obtain ⟨rfl, rfl⟩ := Prod.mk.inj (HO.out.symm.trans HEF.out)
            refine ⟨k1, k2, _, _, _, rfl, ⟨_, fun k hk => .inr ?_, HPV.out.keep ⟨by simp [World.setCell], fun k hk => ?_⟩⟩⟩
            · have h9 := HXS.out
              rcases hk with hk | hk
              · exact hk.elim
              · omega
            · have h9 := HXS.out
              have hkn : k ≠ w.heap.size := by
                rcases hk with hk | hk
                · exact hk.elim
                · omega
              exact (heap_setCell_other _ ⟨w.heap.size, 1, none⟩ k _ hkn).trans (heap_setCell_other _ ⟨w.heap.size, 0, none⟩ k _ hkn)
          · have x83 : xAt s p 83 = false := by simpa using x83
            by_cases x110 : xAt s p 110 = true
            · skip
              have hef : escF s p = (.one (10, true), p + 1) := by unfold escF; rw [if_neg HD0.out, if_neg (show ¬ xAt s p 119 = true by rw [x119]; simp), if_neg (show ¬ xAt s p 87 = true by rw [x87]; simp), if_neg (show ¬ xAt s p 115 = true by rw [x115]; simp), if_neg (show ¬ xAt s p 83 = true by rw [x83]; simp), if_pos x110]
              have HEF := hide hef
              clear hef
              go_upto_region 12 with (first
                | (go_at_call 24; refine Calls.mono (esg_done (by exact HE.out) (by have := HP.out; omega)) ?_; rintro e x ⟨rfl, hRn⟩; replace HE := hide hRn; clear hRn; simp only [hdn])
                | (go_at_call 25; refine Calls.mono (esg_takes (by exact HE.out) (by have := HP.out; omega) HS.out _) ?_; rintro e x ⟨rfl, hRn⟩; replace HE := hide hRn; clear hRn; simp only [x119, x87, x115, x83, x110, Bool.false_eq_true, if_false, if_true] at HE ⊢))
              obtain ⟨z0, z1, zf⟩ := chr_facts (b := b) HE.out.s5
              go_upto_region 22 with (fail)
              obtain ⟨k1, k2, k3, k4⟩ := HE.out.sng 10 true
              have HLB := hide HE.out.lt
              have K1 := hide k1
              have K2 := hide k2
              have K3 := hide k3
              obtain ⟨y0, y1, yf⟩ := chr_facts (b := b) k4
              obtain ⟨q0, q1, qf⟩ := chr_facts (b := b) k3
              clear z0 z1 zf k1 k2 k3 k4 HE
              generalize (x.setCell ⟨w.heap.size + 1, 0, none⟩ (.int .i32 10)).setCell ⟨w.heap.size + 1, 1, none⟩ (.bool true) = Z at *
              go_region
              go_wp2_with (fail)
              rw [jumpA_ret]
              have u3 : (((Z.setCell ⟨w.heap.size, 0, none⟩ (.int .i32 10)).setCell ⟨w.heap.size, 1, none⟩ (.bool true)).drew).heap[w.heap.size]? = some (.cells #[.int .i32 10, .bool true] 71 (0, 0)) := heap_setCell_same _ _ 1 _ _ _ (heap_setCell_same Z _ 0 _ _ _ K3.out)
              refine bodyPost_ret (results_tctX rfl _ _ w.heap.size _ _ _ _ rfl u3 Tryz.underlying71 rfl (by kernel_rfl)) rfl ?_
              obtain ⟨rfl, rfl⟩ := Prod.mk.inj (HO.out.symm.trans HEF.out)
              exact ⟨wrt_rx K1.out (fun e => by have := HLB.out; omega), (K2.out.setNew (Nat.le_refl _)).setNew (Nat.le_refl _), _, _, _, rfl, rfl, rfl⟩
            · have x110 : xAt s p 110 = false := by simpa using x110
              by_cases x114 : xAt s p 114 = true
              · skip
                have hef : escF s p = (.one (13, true), p + 1) := by unfold escF; rw [if_neg HD0.out, if_neg (show ¬ xAt s p 119 = true by rw [x119]; simp), if_neg (show ¬ xAt s p 87 = true by rw [x87]; simp), if_neg (show ¬ xAt s p 115 = true by rw [x115]; simp), if_neg (show ¬ xAt s p 83 = true by rw [x83]; simp), if_neg (show ¬ xAt s p 110 = true by rw [x110]; simp), if_pos x114]
                have HEF := hide hef
                clear hef
                go_upto_region 14 with (first
                  | (go_at_call 24; refine Calls.mono (esg_done (by exact HE.out) (by have := HP.out; omega)) ?_; rintro e x ⟨rfl, hRn⟩; replace HE := hide hRn; clear hRn; simp only [hdn])
                  | (go_at_call 25; refine Calls.mono (esg_takes (by exact HE.out) (by have := HP.out; omega) HS.out _) ?_; rintro e x ⟨rfl, hRn⟩; replace HE := hide hRn; clear hRn; simp only [x119, x87, x115, x83, x110, x114, Bool.false_eq_true, if_false, if_true] at HE ⊢))
                obtain ⟨z0, z1, zf⟩ := chr_facts (b := b) HE.out.s5
                go_upto_region 22 with (fail)
                obtain ⟨k1, k2, k3, k4⟩ := HE.out.sng 13 true
                have HLB := hide HE.out.lt
                have K1 := hide k1
                have K2 := hide k2
                have K3 := hide k3
                obtain ⟨y0, y1, yf⟩ := chr_facts (b := b) k4
                obtain ⟨q0, q1, qf⟩ := chr_facts (b := b) k3
                clear z0 z1 zf k1 k2 k3 k4 HE
                generalize (x.setCell ⟨w.heap.size + 1, 0, none⟩ (.int .i32 13)).setCell ⟨w.heap.size + 1, 1, none⟩ (.bool true) = Z at *
                go_region
                go_wp2_with (fail)
                rw [jumpA_ret]
                have u3 : (((Z.setCell ⟨w.heap.size, 0, none⟩ (.int .i32 13)).setCell ⟨w.heap.size, 1, none⟩ (.bool true)).drew).heap[w.heap.size]? = some (.cells #[.int .i32 13, .bool true] 71 (0, 0)) := heap_setCell_same _ _ 1 _ _ _ (heap_setCell_same Z _ 0 _ _ _ K3.out)
                refine bodyPost_ret (results_tctX rfl _ _ w.heap.size _ _ _ _ rfl u3 Tryz.underlying71 rfl (by kernel_rfl)) rfl ?_
                obtain ⟨rfl, rfl⟩ := Prod.mk.inj (HO.out.symm.trans HEF.out)
                exact ⟨wrt_rx K1.out (fun e => by have := HLB.out; omega), (K2.out.setNew (Nat.le_refl _)).setNew (Nat.le_refl _), _, _, _, rfl, rfl, rfl⟩
              · have x114 : xAt s p 114 = false := by simpa using x114
                by_cases x116 : xAt s p 116 = true
                · skip
                  have hef : escF s p = (.one (9, true), p + 1) := by unfold escF; rw [if_neg HD0.out, if_neg (show ¬ xAt s p 119 = true by rw [x119]; simp), if_neg (show ¬ xAt s p 87 = true by rw [x87]; simp), if_neg (show ¬ xAt s p 115 = true by rw [x115]; simp), if_neg (show ¬ xAt s p 83 = true by rw [x83]; simp), if_neg (show ¬ xAt s p 110 = true by rw [x110]; simp), if_neg (show ¬ xAt s p 114 = true by rw [x114]; simp), if_pos x116]
                  have HEF := hide hef
                  clear hef
                  go_upto_region 16 with (first
                    | (go_at_call 24; refine Calls.mono (esg_done (by exact HE.out) (by have := HP.out; omega)) ?_; rintro e x ⟨rfl, hRn⟩; replace HE := hide hRn; clear hRn; simp only [hdn])
                    | (go_at_call 25; refine Calls.mono (esg_takes (by exact HE.out) (by have := HP.out; omega) HS.out _) ?_; rintro e x ⟨rfl, hRn⟩; replace HE := hide hRn; clear hRn; simp only [x119, x87, x115, x83, x110, x114, x116, Bool.false_eq_true, if_false, if_true] at HE ⊢))
                  obtain ⟨z0, z1, zf⟩ := chr_facts (b := b) HE.out.s5
                  go_upto_region 22 with (fail)
                  obtain ⟨k1, k2, k3, k4⟩ := HE.out.sng 9 true
                  have HLB := hide HE.out.lt
                  have K1 := hide k1
                  have K2 := hide k2
                  have K3 := hide k3
                  obtain ⟨y0, y1, yf⟩ := chr_facts (b := b) k4
                  obtain ⟨q0, q1, qf⟩ := chr_facts (b := b) k3
                  clear z0 z1 zf k1 k2 k3 k4 HE
                  generalize (x.setCell ⟨w.heap.size + 1, 0, none⟩ (.int .i32 9)).setCell ⟨w.heap.size + 1, 1, none⟩ (.bool true) = Z at *
                  go_region
                  go_wp2_with (fail)
                  rw [jumpA_ret]
                  have u3 : (((Z.setCell ⟨w.heap.size, 0, none⟩ (.int .i32 9)).setCell ⟨w.heap.size, 1, none⟩ (.bool true)).drew).heap[w.heap.size]? = some (.cells #[.int .i32 9, .bool true] 71 (0, 0)) := heap_setCell_same _ _ 1 _ _ _ (heap_setCell_same Z _ 0 _ _ _ K3.out)
                  refine bodyPost_ret (results_tctX rfl _ _ w.heap.size _ _ _ _ rfl u3 Tryz.underlying71 rfl (by kernel_rfl)) rfl ?_
                  obtain ⟨rfl, rfl⟩ := Prod.mk.inj (HO.out.symm.trans HEF.out)
                  exact ⟨wrt_rx K1.out (fun e => by have := HLB.out; omega), (K2.out.setNew (Nat.le_refl _)).setNew (Nat.le_refl _), _, _, _, rfl, rfl, rfl⟩
                · have x116 : xAt s p 116 = false := by simpa using x116
                  by_cases x120 : xAt s p 120 = true
                  · skip
                    obtain ⟨D, hD⟩ : ∃ D, D = dgX 2 0 ((bl s).drop (p + 1)) := ⟨_, rfl⟩
                    have kd := fun W (hW : Esg w b s f W (p + 1) v) => esg_digits hW (by have := HLT.out; omega) HS.out 2 2 (by decide) (by decide)
                    rw [← hD] at kd
                    obtain ⟨d1, d2⟩ := D
                    simp only at kd
                    by_cases h2 : 2 ≤ d2
                    · skip
                      have hef : escF s p = (.one ((d1 : Int), decide ((d1 : Int) < 128)), p + 1 + d2) := by unfold escF; rw [if_neg HD0.out, if_neg (show ¬ xAt s p 119 = true by rw [x119]; simp), if_neg (show ¬ xAt s p 87 = true by rw [x87]; simp), if_neg (show ¬ xAt s p 115 = true by rw [x115]; simp), if_neg (show ¬ xAt s p 83 = true by rw [x83]; simp), if_neg (show ¬ xAt s p 110 = true by rw [x110]; simp), if_neg (show ¬ xAt s p 114 = true by rw [x114]; simp), if_neg (show ¬ xAt s p 116 = true by rw [x116]; simp), if_pos x120, ← hD, if_pos h2]
                      have HEF := hide hef
                      clear hef
                      rw [decide_eq_true h2] at kd
                      have KD := hide kd
                      clear kd hD h2
                      obtain ⟨bb, hbb⟩ : ∃ bb, bb = decide ((d1 : Int) < 128) := ⟨_, rfl⟩
                      have HBB := hide hbb
                      go_wp2_with (first
                      | (go_at_call 24; refine Calls.mono (esg_done (by exact HE.out) (by have := HP.out; omega)) ?_; rintro e x ⟨rfl, hRn⟩; replace HE := hide hRn; clear hRn; simp only [hdn])
                      | (go_at_call 25; refine Calls.mono (esg_takes (by exact HE.out) (by have := HP.out; omega) HS.out _) ?_; rintro e x ⟨rfl, hRn⟩; replace HE := hide hRn; clear hRn; simp only [x119, x87, x115, x83, x110, x114, x116, x120, Bool.false_eq_true, if_false, if_true] at HE ⊢))
                      try go_step3
                      first | refine goto_then rfl ?_ | refine goto_plain rfl ?_ | refine goto_block rfl ?_
                      go_upto_region 25 with (go_at_call 69; refine Calls.mono (KD.out _ (by exact HE.out)) ?_; rintro e x ⟨rfl, hRn⟩; replace HE := hide hRn; clear hRn)
                      obtain ⟨z0, z1, zf⟩ := chr_facts (b := b) HE.out.r3
                      go_wp2_with (fail)
                      rw [jumpA_ret]
                      obtain ⟨k1, k2, k3⟩ := HE.out.res (d1 : Int) (decide ((d1 : Int) < 128))
                      refine bodyPost_ret (results_tctX rfl _ _ w.heap.size _ _ _ _ rfl k3 Tryz.underlying71 rfl (by kernel_rfl)) rfl ?_
                      obtain ⟨rfl, rfl⟩ := Prod.mk.inj (HO.out.symm.trans HEF.out)
                      exact ⟨k1, k2, _, _, _, rfl, rfl, rfl⟩
                    · skip
                      have hef : escF s p = (.bad, p + 1 + d2) := by unfold escF; rw [if_neg HD0.out, if_neg (show ¬ xAt s p 119 = true by rw [x119]; simp), if_neg (show ¬ xAt s p 87 = true by rw [x87]; simp), if_neg (show ¬ xAt s p 115 = true by rw [x115]; simp), if_neg (show ¬ xAt s p 83 = true by rw [x83]; simp), if_neg (show ¬ xAt s p 110 = true by rw [x110]; simp), if_neg (show ¬ xAt s p 114 = true by rw [x114]; simp), if_neg (show ¬ xAt s p 116 = true by rw [x116]; simp), if_pos x120, ← hD, if_neg h2]
                      have HEF := hide hef
                      clear hef
                      rw [decide_eq_false h2] at kd
                      have KD := hide kd
                      clear kd hD h2
                      go_wp2_with (first
                      | (go_at_call 24; refine Calls.mono (esg_done (by exact HE.out) (by have := HP.out; omega)) ?_; rintro e x ⟨rfl, hRn⟩; replace HE := hide hRn; clear hRn; simp only [hdn])
                      | (go_at_call 25; refine Calls.mono (esg_takes (by exact HE.out) (by have := HP.out; omega) HS.out _) ?_; rintro e x ⟨rfl, hRn⟩; replace HE := hide hRn; clear hRn; simp only [x119, x87, x115, x83, x110, x114, x116, x120, Bool.false_eq_true, if_false, if_true] at HE ⊢))
                      try go_step3
                      first | refine goto_then rfl ?_ | refine goto_plain rfl ?_ | refine goto_block rfl ?_
                      go_wp2_with (go_at_call 69; refine Calls.mono (KD.out _ (by exact HE.out)) ?_; rintro e x ⟨rfl, hRn⟩; replace HE := hide hRn; clear hRn)
                      try go_step3
                      first | refine goto_then rfl ?_ | refine goto_plain rfl ?_ | refine goto_block rfl ?_
                      obtain ⟨z0, z1, zf⟩ := chr_facts (b := b) HE.out.r3
                      go_wp2_with (fail)
                      rw [jumpA_ret]
                      obtain ⟨k1, k2, k3⟩ := HE.out.res 0 false
                      refine bodyPost_ret (results_tctX rfl _ _ w.heap.size _ _ _ _ rfl k3 Tryz.underlying71 rfl (by kernel_rfl)) rfl ?_
                      obtain ⟨rfl, rfl⟩ := Prod.mk.inj (HO.out.symm.trans HEF.out)
                      exact ⟨k1, k2, _, _, _, rfl, rfl⟩
                  · have x120 : xAt s p 120 = false := by simpa using x120
                    by_cases x117 : xAt s p 117 = true
                    · skip
                      by_cases xb : xAt s (p + 1) 123 = true
                      · skip
                        have hlt2 := xAt_lt xb
                        obtain ⟨D, hD⟩ : ∃ D, D = dgX 6 0 ((bl s).drop (p + 2)) := ⟨_, rfl⟩
                        have hdl : D.2 ≤ s.size - (p + 2) := by rw [hD]; exact Nat.le_trans (dgX_len _ _ _) (by rw [List.length_drop, bl_len]; exact Nat.le_refl _)
                        have kd := fun W (hW : Esg w b s f W (p + 2) v) => esg_digits hW (by omega) HS.out 1 6 (by decide) (by decide)
                        rw [← hD] at kd
                        obtain ⟨d1, d2⟩ := D
                        simp only at kd hdl
                        have HPD : Hid (p + 2 + d2 ≤ s.size) := by show _ ≤ _; omega
                        clear hdl hlt2
                        by_cases h1 : 1 ≤ d2
                        · by_cases xc : xAt s (p + 2 + d2) 125 = true
                          · by_cases hvd : validB (d1 : Int) = true
                            · skip
                              have hef : escF s p = (.one ((d1 : Int), true), p + 2 + d2 + 1) := by unfold escF; rw [if_neg HD0.out, if_neg (show ¬ xAt s p 119 = true by rw [x119]; simp), if_neg (show ¬ xAt s p 87 = true by rw [x87]; simp), if_neg (show ¬ xAt s p 115 = true by rw [x115]; simp), if_neg (show ¬ xAt s p 83 = true by rw [x83]; simp), if_neg (show ¬ xAt s p 110 = true by rw [x110]; simp), if_neg (show ¬ xAt s p 114 = true by rw [x114]; simp), if_neg (show ¬ xAt s p 116 = true by rw [x116]; simp), if_neg (show ¬ xAt s p 120 = true by rw [x120]; simp), if_pos x117, if_pos xb, ← hD, if_pos ⟨h1, xc⟩, if_pos hvd]
                              have HEF := hide hef
                              clear hef
                              rw [decide_eq_true h1] at kd
                              have KD := hide kd
                              clear kd hD h1
                              go_wp2_with (first
                        | (go_at_call 24; refine Calls.mono (esg_done (by exact HE.out) (by have := HP.out; omega)) ?_; rintro e x ⟨rfl, hRn⟩; replace HE := hide hRn; clear hRn; simp only [hdn])
                        | (go_at_call 25; refine Calls.mono (esg_takes (by exact HE.out) (by have := HP.out; omega) HS.out _) ?_; rintro e x ⟨rfl, hRn⟩; replace HE := hide hRn; clear hRn; simp only [x119, x87, x115, x83, x110, x114, x116, x120, x117, Bool.false_eq_true, if_false, if_true] at HE ⊢))
                              try go_step3
                              first | refine goto_then rfl ?_ | refine goto_plain rfl ?_ | refine goto_block rfl ?_
                              go_upto_region 27 with (go_at_call 25; refine Calls.mono (esg_takes (by exact HE.out) (by have := HLT.out; omega) HS.out _) ?_; rintro e x ⟨rfl, hRn⟩; replace HE := hide hRn; clear hRn; simp only [xb, Bool.false_eq_true, if_false, if_true] at HE ⊢)
                              go_upto_region 28 with (go_at_call 69; refine Calls.mono (KD.out _ (by exact HE.out)) ?_; rintro e x ⟨rfl, hRn⟩; replace HE := hide hRn; clear hRn)
                              go_upto_region 29 with (go_at_call 25; refine Calls.mono (esg_takes (by exact HE.out) (by have := HPD.out; omega) HS.out _) ?_; rintro e x ⟨rfl, hRn⟩; replace HE := hide hRn; clear hRn; simp only [xc, Bool.false_eq_true, if_false, if_true] at HE ⊢)
                              go_upto_region 30 with (go_at_call 70; refine (xvalid_any _ _).mono ?_; rintro e xx ⟨rfl, hx⟩; obtain rfl : x = xx := hx.symm; clear hx; rw [hvd])
                              obtain ⟨z0, z1, zf⟩ := chr_facts (b := b) HE.out.r3
                              go_wp2_with (fail)
                              rw [jumpA_ret]
                              obtain ⟨k1, k2, k3⟩ := HE.out.res (d1 : Int) true
                              refine bodyPost_ret (results_tctX rfl _ _ w.heap.size _ _ _ _ rfl k3 Tryz.underlying71 rfl (by kernel_rfl)) rfl ?_
                              obtain ⟨rfl, rfl⟩ := Prod.mk.inj (HO.out.symm.trans HEF.out)
                              exact ⟨k1, k2, _, _, _, rfl, rfl, rfl⟩
                            · have hvd : validB (d1 : Int) = false := by simpa using hvd
                              have hef : escF s p = (.bad, p + 2 + d2) := by unfold escF; rw [if_neg HD0.out, if_neg (show ¬ xAt s p 119 = true by rw [x119]; simp), if_neg (show ¬ xAt s p 87 = true by rw [x87]; simp), if_neg (show ¬ xAt s p 115 = true by rw [x115]; simp), if_neg (show ¬ xAt s p 83 = true by rw [x83]; simp), if_neg (show ¬ xAt s p 110 = true by rw [x110]; simp), if_neg (show ¬ xAt s p 114 = true by rw [x114]; simp), if_neg (show ¬ xAt s p 116 = true by rw [x116]; simp), if_neg (show ¬ xAt s p 120 = true by rw [x120]; simp), if_pos x117, if_pos xb, ← hD, if_pos ⟨h1, xc⟩, if_neg (show ¬ validB (d1 : Int) = true by rw [hvd]; simp)]
                              have HEF := hide hef
                              clear hef
                              rw [decide_eq_true h1] at kd
                              have KD := hide kd
                              have hxl := xAt_lt xc
                              have hlast := last_mark xc (by decide)
                              have kb := fun W (hW : Esg w b s f W (p + 2 + d2 + 1) v) => xback_any b s (p + 2 + d2 + 1) f v 1 W hW.rx (by omega) HS.out hlast (by omega)
                              rw [Nat.add_sub_cancel] at kb
                              have KB := hide kb
                              clear kd kb hlast hxl hD h1
                              go_wp2_with (first
                        | (go_at_call 24; refine Calls.mono (esg_done (by exact HE.out) (by have := HP.out; omega)) ?_; rintro e x ⟨rfl, hRn⟩; replace HE := hide hRn; clear hRn; simp only [hdn])
                        | (go_at_call 25; refine Calls.mono (esg_takes (by exact HE.out) (by have := HP.out; omega) HS.out _) ?_; rintro e x ⟨rfl, hRn⟩; replace HE := hide hRn; clear hRn; simp only [x119, x87, x115, x83, x110, x114, x116, x120, x117, Bool.false_eq_true, if_false, if_true] at HE ⊢))
                              try go_step3
                              first | refine goto_then rfl ?_ | refine goto_plain rfl ?_ | refine goto_block rfl ?_
                              go_upto_region 27 with (go_at_call 25; refine Calls.mono (esg_takes (by exact HE.out) (by have := HLT.out; omega) HS.out _) ?_; rintro e x ⟨rfl, hRn⟩; replace HE := hide hRn; clear hRn; simp only [xb, Bool.false_eq_true, if_false, if_true] at HE ⊢)
                              go_upto_region 28 with (go_at_call 69; refine Calls.mono (KD.out _ (by exact HE.out)) ?_; rintro e x ⟨rfl, hRn⟩; replace HE := hide hRn; clear hRn)
                              go_upto_region 29 with (go_at_call 25; refine Calls.mono (esg_takes (by exact HE.out) (by have := HPD.out; omega) HS.out _) ?_; rintro e x ⟨rfl, hRn⟩; replace HE := hide hRn; clear hRn; simp only [xc, Bool.false_eq_true, if_false, if_true] at HE ⊢)
                              go_upto_region 31 with (go_at_call 70; refine (xvalid_any _ _).mono ?_; rintro e xx ⟨rfl, hx⟩; obtain rfl : x = xx := hx.symm; clear hx; rw [hvd])
                              go_wp2_with (go_at_call 53; refine Calls.mono (KB.out _ (by exact HE.out)) ?_; rintro e x9 ⟨rfl, hRn, hgn⟩; replace HE := hide (HE.out.frame hgn hRn); clear hRn hgn)
                              refine wp_label ?_
                              obtain ⟨z0, z1, zf⟩ := chr_facts (b := b) HE.out.r3
                              go_wp2_with (fail)
                              rw [jumpA_ret]
                              obtain ⟨k1, k2, k3⟩ := HE.out.res 0 false
                              refine bodyPost_ret (results_tctX rfl _ _ w.heap.size _ _ _ _ rfl k3 Tryz.underlying71 rfl (by kernel_rfl)) rfl ?_
                              obtain ⟨rfl, rfl⟩ := Prod.mk.inj (HO.out.symm.trans HEF.out)
                              exact ⟨k1, k2, _, _, _, rfl, rfl⟩
                          · have xc : xAt s (p + 2 + d2) 125 = false := by simpa using xc
                            have hef : escF s p = (.bad, p + 2 + d2) := by unfold escF; rw [if_neg HD0.out, if_neg (show ¬ xAt s p 119 = true by rw [x119]; simp), if_neg (show ¬ xAt s p 87 = true by rw [x87]; simp), if_neg (show ¬ xAt s p 115 = true by rw [x115]; simp), if_neg (show ¬ xAt s p 83 = true by rw [x83]; simp), if_neg (show ¬ xAt s p 110 = true by rw [x110]; simp), if_neg (show ¬ xAt s p 114 = true by rw [x114]; simp), if_neg (show ¬ xAt s p 116 = true by rw [x116]; simp), if_neg (show ¬ xAt s p 120 = true by rw [x120]; simp), if_pos x117, if_pos xb, ← hD, if_neg (show ¬ (1 ≤ d2 ∧ xAt s (p + 2 + d2) 125 = true) by rw [xc]; simp)]
                            have HEF := hide hef
                            clear hef
                            rw [decide_eq_true h1] at kd
                            have KD := hide kd
                            clear kd hD h1
                            go_wp2_with (first
                        | (go_at_call 24; refine Calls.mono (esg_done (by exact HE.out) (by have := HP.out; omega)) ?_; rintro e x ⟨rfl, hRn⟩; replace HE := hide hRn; clear hRn; simp only [hdn])
                        | (go_at_call 25; refine Calls.mono (esg_takes (by exact HE.out) (by have := HP.out; omega) HS.out _) ?_; rintro e x ⟨rfl, hRn⟩; replace HE := hide hRn; clear hRn; simp only [x119, x87, x115, x83, x110, x114, x116, x120, x117, Bool.false_eq_true, if_false, if_true] at HE ⊢))
                            try go_step3
                            first | refine goto_then rfl ?_ | refine goto_plain rfl ?_ | refine goto_block rfl ?_
                            go_upto_region 27 with (go_at_call 25; refine Calls.mono (esg_takes (by exact HE.out) (by have := HLT.out; omega) HS.out _) ?_; rintro e x ⟨rfl, hRn⟩; replace HE := hide hRn; clear hRn; simp only [xb, Bool.false_eq_true, if_false, if_true] at HE ⊢)
                            go_upto_region 28 with (go_at_call 69; refine Calls.mono (KD.out _ (by exact HE.out)) ?_; rintro e x ⟨rfl, hRn⟩; replace HE := hide hRn; clear hRn)
                            go_wp2_with (go_at_call 25; refine Calls.mono (esg_takes (by exact HE.out) (by have := HPD.out; omega) HS.out _) ?_; rintro e x ⟨rfl, hRn⟩; replace HE := hide hRn; clear hRn; simp only [xc, Bool.false_eq_true, if_false, if_true] at HE ⊢)
                            refine wp_label ?_
                            obtain ⟨z0, z1, zf⟩ := chr_facts (b := b) HE.out.r3
                            go_wp2_with (fail)
                            rw [jumpA_ret]
                            obtain ⟨k1, k2, k3⟩ := HE.out.res 0 false
                            refine bodyPost_ret (results_tctX rfl _ _ w.heap.size _ _ _ _ rfl k3 Tryz.underlying71 rfl (by kernel_rfl)) rfl ?_
                            obtain ⟨rfl, rfl⟩ := Prod.mk.inj (HO.out.symm.trans HEF.out)
                            exact ⟨k1, k2, _, _, _, rfl, rfl⟩
                        · skip
                          have hef : escF s p = (.bad, p + 2 + d2) := by unfold escF; rw [if_neg HD0.out, if_neg (show ¬ xAt s p 119 = true by rw [x119]; simp), if_neg (show ¬ xAt s p 87 = true by rw [x87]; simp), if_neg (show ¬ xAt s p 115 = true by rw [x115]; simp), if_neg (show ¬ xAt s p 83 = true by rw [x83]; simp), if_neg (show ¬ xAt s p 110 = true by rw [x110]; simp), if_neg (show ¬ xAt s p 114 = true by rw [x114]; simp), if_neg (show ¬ xAt s p 116 = true by rw [x116]; simp), if_neg (show ¬ xAt s p 120 = true by rw [x120]; simp), if_pos x117, if_pos xb, ← hD, if_neg (show ¬ (1 ≤ d2 ∧ xAt s (p + 2 + d2) 125 = true) from fun h => h1 h.1)]
                          have HEF := hide hef
                          clear hef
                          rw [decide_eq_false h1] at kd
                          have KD := hide kd
                          clear kd hD h1
                          go_wp2_with (first
                        | (go_at_call 24; refine Calls.mono (esg_done (by exact HE.out) (by have := HP.out; omega)) ?_; rintro e x ⟨rfl, hRn⟩; replace HE := hide hRn; clear hRn; simp only [hdn])
                        | (go_at_call 25; refine Calls.mono (esg_takes (by exact HE.out) (by have := HP.out; omega) HS.out _) ?_; rintro e x ⟨rfl, hRn⟩; replace HE := hide hRn; clear hRn; simp only [x119, x87, x115, x83, x110, x114, x116, x120, x117, Bool.false_eq_true, if_false, if_true] at HE ⊢))
                          try go_step3
                          first | refine goto_then rfl ?_ | refine goto_plain rfl ?_ | refine goto_block rfl ?_
                          go_upto_region 27 with (go_at_call 25; refine Calls.mono (esg_takes (by exact HE.out) (by have := HLT.out; omega) HS.out _) ?_; rintro e x ⟨rfl, hRn⟩; replace HE := hide hRn; clear hRn; simp only [xb, Bool.false_eq_true, if_false, if_true] at HE ⊢)
                          go_wp2_with (go_at_call 69; refine Calls.mono (KD.out _ (by exact HE.out)) ?_; rintro e x ⟨rfl, hRn⟩; replace HE := hide hRn; clear hRn)
                          refine wp_label ?_
                          obtain ⟨z0, z1, zf⟩ := chr_facts (b := b) HE.out.r3
                          go_wp2_with (fail)
                          rw [jumpA_ret]
                          obtain ⟨k1, k2, k3⟩ := HE.out.res 0 false
                          refine bodyPost_ret (results_tctX rfl _ _ w.heap.size _ _ _ _ rfl k3 Tryz.underlying71 rfl (by kernel_rfl)) rfl ?_
                          obtain ⟨rfl, rfl⟩ := Prod.mk.inj (HO.out.symm.trans HEF.out)
                          exact ⟨k1, k2, _, _, _, rfl, rfl⟩
                      · have xb : xAt s (p + 1) 123 = false := by simpa using xb
                        have hef : escF s p = (.bad, p + 1) := by unfold escF; rw [if_neg HD0.out, if_neg (show ¬ xAt s p 119 = true by rw [x119]; simp), if_neg (show ¬ xAt s p 87 = true by rw [x87]; simp), if_neg (show ¬ xAt s p 115 = true by rw [x115]; simp), if_neg (show ¬ xAt s p 83 = true by rw [x83]; simp), if_neg (show ¬ xAt s p 110 = true by rw [x110]; simp), if_neg (show ¬ xAt s p 114 = true by rw [x114]; simp), if_neg (show ¬ xAt s p 116 = true by rw [x116]; simp), if_neg (show ¬ xAt s p 120 = true by rw [x120]; simp), if_pos x117, if_neg (show ¬ xAt s (p + 1) 123 = true by rw [xb]; simp)]
                        have HEF := hide hef
                        clear hef
                        go_wp2_with (first
                        | (go_at_call 24; refine Calls.mono (esg_done (by exact HE.out) (by have := HP.out; omega)) ?_; rintro e x ⟨rfl, hRn⟩; replace HE := hide hRn; clear hRn; simp only [hdn])
                        | (go_at_call 25; refine Calls.mono (esg_takes (by exact HE.out) (by have := HP.out; omega) HS.out _) ?_; rintro e x ⟨rfl, hRn⟩; replace HE := hide hRn; clear hRn; simp only [x119, x87, x115, x83, x110, x114, x116, x120, x117, Bool.false_eq_true, if_false, if_true] at HE ⊢))
                        try go_step3
                        first | refine goto_then rfl ?_ | refine goto_plain rfl ?_ | refine goto_block rfl ?_
                        go_wp2_with (go_at_call 25; refine Calls.mono (esg_takes (by exact HE.out) (by have := HLT.out; omega) HS.out _) ?_; rintro e x ⟨rfl, hRn⟩; replace HE := hide hRn; clear hRn; simp only [xb, Bool.false_eq_true, if_false, if_true] at HE ⊢)
                        try go_step3
                        first | refine goto_then rfl ?_ | refine goto_plain rfl ?_ | refine goto_block rfl ?_
                        obtain ⟨z0, z1, zf⟩ := chr_facts (b := b) HE.out.r3
                        go_wp2_with (fail)
                        rw [jumpA_ret]
                        obtain ⟨k1, k2, k3⟩ := HE.out.res 0 false
                        refine bodyPost_ret (results_tctX rfl _ _ w.heap.size _ _ _ _ rfl k3 Tryz.underlying71 rfl (by kernel_rfl)) rfl ?_
                        obtain ⟨rfl, rfl⟩ := Prod.mk.inj (HO.out.symm.trans HEF.out)
                        exact ⟨k1, k2, _, _, _, rfl, rfl⟩
                    · have x117 : xAt s p 117 = false := by simpa using x117
                      obtain ⟨m, hm⟩ : ∃ m, by' (bl s) p = m := ⟨_, rfl⟩
                      have hm8 : m < 256 := by rw [← hm]; exact by'_lt _ _
                      have hmk : mkB m = false := by rw [← hm]; exact HMK.out
                      have hef : escF s p = (.bad, p) := by unfold escF; rw [if_neg HD0.out, if_neg (show ¬ xAt s p 119 = true by rw [x119]; simp), if_neg (show ¬ xAt s p 87 = true by rw [x87]; simp), if_neg (show ¬ xAt s p 115 = true by rw [x115]; simp), if_neg (show ¬ xAt s p 83 = true by rw [x83]; simp), if_neg (show ¬ xAt s p 110 = true by rw [x110]; simp), if_neg (show ¬ xAt s p 114 = true by rw [x114]; simp), if_neg (show ¬ xAt s p 116 = true by rw [x116]; simp), if_neg (show ¬ xAt s p 120 = true by rw [x120]; simp), if_neg (show ¬ xAt s p 117 = true by rw [x117]; simp), if_neg (show ¬ mkB (by' (bl s) p) = true by rw [HMK.out]; simp)]
                      have HEF := hide hef
                      clear hef
                      go_upto_region 19 with (first
                        | (go_at_call 24; refine Calls.mono (esg_done (by exact HE.out) (by have := HP.out; omega)) ?_; rintro e x ⟨rfl, hRn⟩; replace HE := hide hRn; clear hRn; simp only [hdn])
                        | (go_at_call 25; refine Calls.mono (esg_takes (by exact HE.out) (by have := HP.out; omega) HS.out _) ?_; rintro e x ⟨rfl, hRn⟩; replace HE := hide hRn; clear hRn; simp only [x119, x87, x115, x83, x110, x114, x116, x120, x117, Bool.false_eq_true, if_false, if_true] at HE ⊢))
                      have ix := fun W => idx_by s p HLT.out W
                      rw [hm] at ix
                      have ki := fun W => xisMark_any m W
                      rw [hmk] at ki
                      have KI := hide ki
                      have c0 := HE.out.rx.text
                      have c1 := HE.out.rx.at
                      have fb := HE.out.rx.frz
                      clear ki hm hmk hdn x119 x87 x115 x83 x110 x114 x116 x120 x117
                      go_quiet ((go_at_call 68; refine Calls.quiet_of_same (KI.out _)))
                      go_wp2_with (fail)
                      clear c0 c1 fb
                      replace HE := hide (show Esg w b s f (x.drewN nq) p v from HE.out.frame (GrX.of_below ⟨rfl, rfl, rfl, Nat.le_refl _, fun _ _ => rfl⟩) (HE.out.rx.drewN nq))
                      try go_step3
                      first | refine goto_then rfl ?_ | refine goto_plain rfl ?_ | refine goto_block rfl ?_
                      obtain ⟨z0, z1, zf⟩ := chr_facts (b := b) HE.out.r3
                      go_wp2_with (fail)
                      rw [jumpA_ret]
                      obtain ⟨k1, k2, k3⟩ := HE.out.res 0 false
                      refine bodyPost_ret (results_tctX rfl _ _ w.heap.size _ _ _ _ rfl k3 Tryz.underlying71 rfl (by kernel_rfl)) rfl ?_
                      obtain ⟨rfl, rfl⟩ := Prod.mk.inj (HO.out.symm.trans HEF.out)
                      exact ⟨k1, k2, _, _, _, rfl, rfl⟩
theorem xescaped_any (b : Nat) (s : ByteArray) (p : Nat) (f : Bool) (v : Value) (w : World) (h : Rx w b s p f v) (hp : p ≤ s.size) (hs : s.size ≤ 65536) :
    Calls Tryz.prog 49 #[.pointer (some ⟨b, 0, none⟩)] w fun e w' => EsV w b s f v (escF s p).1 (escF s p).2 e w' := by
  by_cases hm : mkB (by' (bl s) p) = true
  · have hno : ∀ k, k ∈ [119, 87, 115, 83, 110, 114, 116, 120, 117] → xAt s p k = false := fun k hk => by
      unfold xAt
      have : by' (bl s) p ≠ k := fun e => by
        rw [e] at hm
        simp at hk
        rcases hk with rfl | rfl | rfl | rfl | rfl | rfl | rfl | rfl | rfl <;> exact absurd hm (by decide)
      rw [decide_eq_false this, Bool.and_false]
    by_cases hlt : p < s.size
    · have h8 : by' (bl s) p < 128 := by
        unfold mkB at hm
        simp at hm
        omega
      have he : escF s p = (.one ((by' (bl s) p : Int), true), p + 1) := by
        unfold escF
        rw [if_neg (by omega), if_neg (by rw [hno 119 (by simp)]; simp), if_neg (by rw [hno 87 (by simp)]; simp), if_neg (by rw [hno 115 (by simp)]; simp), if_neg (by rw [hno 83 (by simp)]; simp), if_neg (by rw [hno 110 (by simp)]; simp), if_neg (by rw [hno 114 (by simp)]; simp), if_neg (by rw [hno 116 (by simp)]; simp), if_neg (by rw [hno 120 (by simp)]; simp), if_neg (by rw [hno 117 (by simp)]; simp), if_pos hm]
      rw [he]
      exact (xescaped_mark b s p _ f v w h hlt (by omega) rfl hm h8 hno).mono fun e w' ⟨h1, h2, h3⟩ => ⟨h2, h3, _, _, _, h1, rfl, rfl⟩
    · have hz : by' (bl s) p = 0 := by'_beyond _ _ (by rw [bl_len]; omega)
      rw [hz] at hm
      exact absurd hm (by decide)
  · exact xescaped_nomark b s p f v w h hp hs _ _ rfl (by simpa using hm)
end Go.Proofs.YtodooppapciegaaGreatDoor
namespace Go.Proofs.YtodooppapciegaaGreatDoor
open Go.RowKit Go.Shelf
set_option linter.unusedVariables false
set_option linter.unusedSimpArgs false

set_option maxRecDepth 100000 in
set_option maxHeartbeats 4000000 in
theorem xwritten_esc (b : Nat) (s : ByteArray) (p : Nat) (f : Bool) (v : Value) (w : World) (h : Rx w b s p f v) (hs : s.size ≤ 65536) (h92 : xAt s p 92 = true) (o : Wr) (q : Nat) (ho : escF s (p + 1) = (o, q)) :
    Calls Tryz.prog 29 #[.pointer (some ⟨b, 0, none⟩)] w fun e w' => EsV w b s f v o q e w' := by
  have hlt := h.lt
  have hpl := xAt_lt h92
  have hB : Below w.heap.size w (w.alloc (.cells #[.int .i32 0, .bool false] 71)) := (Below.refl _ w).alloc (Nat.le_refl _) _
  have kt := xtakes_any b s p 92 f v (w.alloc (.cells #[.int .i32 0, .bool false] 71)) (h.below hB) (by omega) (by omega)
  rw [h92] at kt
  simp only [if_true] at kt
  have ke := fun W (hw : Rx W b s (p + 1) f v) => xescaped_any b s (p + 1) f v W hw (by omega) hs
  rw [ho] at ke
  have h3 := heap_alloc_new w (.cells #[.int .i32 0, .bool false] 71)
  have hsz : (w.alloc (.cells #[.int .i32 0, .bool false] 71)).heap.size = w.heap.size + 1 := by simp
  have KT := hide kt
  have H3 := hide h3
  have HLT := hide hlt
  have HB := hide hB
  clear kt h3 hlt hB h ho
  cases o with
  | bad =>
    have KE := hide ke
    clear ke
    go_enter Tryz.func29, Tryz.ntmps29
    go_upto_region 1 with (fail)
    generalize w.alloc (.cells #[.int .i32 0, .bool false] 71) = X at *
    go_wp2_with (first
      | (go_at_call 25; refine (KT.out).mono ?_; rintro e x ⟨rfl, hRn, hgn⟩; have HR := hide hRn; have G1 := hide ((GrX.of_below HB.out).trans (GrX.of_grown hgn (fun j hj => .inl (by cases hj; rfl)) : GrX (fun j => j = b) X x)); have Q3 := hide ((hgn.block w.heap.size (by rw [hsz]; omega) (fun e => by have := HLT.out; cases e; omega)).trans H3.out); clear hRn hgn KT)
      | (go_at_call 49; refine (KE.out _ HR.out).mono ?_; rintro e y ⟨hRn, hgn, u, c0, c1, rfl, rfl⟩; have HRY := hide hRn; have G2 := hide (G1.out.trans hgn); have Q4 := hide ((hgn.2.2.2.2 w.heap.size (Array.getElem?_eq_some_iff.1 Q3.out).1 (by have := HLT.out; omega)).trans Q3.out); obtain ⟨a30, a31, a3f⟩ := chr_facts (b := b) Q4.out; clear hRn hgn KE))
    have u3 : ((y.setCell ⟨w.heap.size, 0, none⟩ (.int .i32 c0)).setCell ⟨w.heap.size, 1, none⟩ (.bool c1)).heap[w.heap.size]? = some (.cells #[.int .i32 c0, .bool c1] 71 (0, 0)) := heap_setCell_same _ _ 1 _ _ _ (heap_setCell_same y _ 0 _ _ _ Q4.out)
    have hne3 : b ≠ w.heap.size := fun e => by have := HLT.out; omega
    refine bodyPost_ret (results_tctX rfl _ _ w.heap.size _ _ _ _ rfl u3 Tryz.underlying71 rfl (by kernel_rfl)) rfl ?_
    exact ⟨wrt_rx HRY.out hne3, (G2.out.setNew (Nat.le_refl _)).setNew (Nat.le_refl _), _, _, _, rfl, rfl⟩
  | one c =>
    have KE := hide ke
    clear ke
    go_enter Tryz.func29, Tryz.ntmps29
    go_upto_region 1 with (fail)
    generalize w.alloc (.cells #[.int .i32 0, .bool false] 71) = X at *
    go_wp2_with (first
      | (go_at_call 25; refine (KT.out).mono ?_; rintro e x ⟨rfl, hRn, hgn⟩; have HR := hide hRn; have G1 := hide ((GrX.of_below HB.out).trans (GrX.of_grown hgn (fun j hj => .inl (by cases hj; rfl)) : GrX (fun j => j = b) X x)); have Q3 := hide ((hgn.block w.heap.size (by rw [hsz]; omega) (fun e => by have := HLT.out; cases e; omega)).trans H3.out); clear hRn hgn KT)
      | (go_at_call 49; refine (KE.out _ HR.out).mono ?_; rintro e y ⟨hRn, hgn, u, c0, c1, rfl, rfl, hcc⟩; have HCC := hide hcc; have HRY := hide hRn; have G2 := hide (G1.out.trans hgn); have Q4 := hide ((hgn.2.2.2.2 w.heap.size (Array.getElem?_eq_some_iff.1 Q3.out).1 (by have := HLT.out; omega)).trans Q3.out); obtain ⟨a30, a31, a3f⟩ := chr_facts (b := b) Q4.out; clear hRn hgn hcc KE))
    have u3 : ((y.setCell ⟨w.heap.size, 0, none⟩ (.int .i32 c0)).setCell ⟨w.heap.size, 1, none⟩ (.bool c1)).heap[w.heap.size]? = some (.cells #[.int .i32 c0, .bool c1] 71 (0, 0)) := heap_setCell_same _ _ 1 _ _ _ (heap_setCell_same y _ 0 _ _ _ Q4.out)
    have hne3 : b ≠ w.heap.size := fun e => by have := HLT.out; omega
    refine bodyPost_ret (results_tctX rfl _ _ w.heap.size _ _ _ _ rfl u3 Tryz.underlying71 rfl (by kernel_rfl)) rfl ?_
    exact ⟨wrt_rx HRY.out hne3, (G2.out.setNew (Nat.le_refl _)).setNew (Nat.le_refl _), _, _, _, rfl, rfl, HCC.out⟩
  | kind P =>
    have KE := hide ke
    clear ke
    go_enter Tryz.func29, Tryz.ntmps29
    go_upto_region 1 with (fail)
    generalize w.alloc (.cells #[.int .i32 0, .bool false] 71) = X at *
    go_wp2_with (first
      | (go_at_call 25; refine (KT.out).mono ?_; rintro e x ⟨rfl, hRn, hgn⟩; have HR := hide hRn; have G1 := hide ((GrX.of_below HB.out).trans (GrX.of_grown hgn (fun j hj => .inl (by cases hj; rfl)) : GrX (fun j => j = b) X x)); have Q3 := hide ((hgn.block w.heap.size (by rw [hsz]; omega) (fun e => by have := HLT.out; cases e; omega)).trans H3.out); clear hRn hgn KT)
      | (go_at_call 49; refine (KE.out _ HR.out).mono ?_; rintro e y ⟨hRn, hgn, u, c0, c1, rfl, hpo⟩; have HPO := hide hpo; have HRY := hide hRn; have G2 := hide (G1.out.trans hgn); have HXS := hide (Array.getElem?_eq_some_iff.1 Q3.out).1; have Q4 := hide ((hgn.2.2.2.2 w.heap.size (Array.getElem?_eq_some_iff.1 Q3.out).1 (by have := HLT.out; omega)).trans Q3.out); obtain ⟨a30, a31, a3f⟩ := chr_facts (b := b) Q4.out; obtain ⟨_, _, _, fu, lb, rfl, _, _⟩ := hpo; clear hRn hgn KE))
    have u3 : ((y.setCell ⟨w.heap.size, 0, none⟩ (.int .i32 c0)).setCell ⟨w.heap.size, 1, none⟩ (.bool c1)).heap[w.heap.size]? = some (.cells #[.int .i32 c0, .bool c1] 71 (0, 0)) := heap_setCell_same _ _ 1 _ _ _ (heap_setCell_same y _ 0 _ _ _ Q4.out)
    have hne3 : b ≠ w.heap.size := fun e => by have := HLT.out; omega
    refine bodyPost_ret (results_tctX rfl _ _ w.heap.size _ _ _ _ rfl u3 Tryz.underlying71 rfl (by kernel_rfl)) rfl ?_
    refine ⟨wrt_rx HRY.out hne3, (G2.out.setNew (Nat.le_refl _)).setNew (Nat.le_refl _), _, _, _, rfl, ?_⟩
    obtain ⟨E, hE, hPV⟩ := HPO.out
    have h9 := HXS.out
    have h10 : ∀ k, E k → w.heap.size < k := fun k hk => by have := (hE k hk).resolve_left id; omega
    refine ⟨E, fun k hk => .inr (Nat.le_of_lt (h10 k hk)), hPV.keep ⟨by simp [World.setCell], fun k hk => ?_⟩⟩
    have hkn : k ≠ w.heap.size := fun e => by have := h10 k hk; omega
    exact (heap_setCell_other _ ⟨w.heap.size, 1, none⟩ k _ hkn).trans (heap_setCell_other _ ⟨w.heap.size, 0, none⟩ k _ hkn)
/-- What written tells from a place on. -/
def wrF (s : ByteArray) (p : Nat) : Wr × Nat := if xAt s p 92 = true then escF s (p + 1) else if p < s.size then (.one (ch1 ((bl s).drop p)), p + cw ((bl s).drop p)) else (.bad, p)
theorem escF_le {s : ByteArray} {p : Nat} (hp : p ≤ s.size) : p ≤ (escF s p).2 ∧ (escF s p).2 ≤ s.size := by
  have h2 := dgX_len 2 0 ((bl s).drop (p + 1))
  have h6 := dgX_len 6 0 ((bl s).drop (p + 2))
  rw [List.length_drop, bl_len] at h2 h6
  obtain ⟨r, hr⟩ : ∃ r, escF s p = r := ⟨_, rfl⟩
  rw [hr]
  unfold escF at hr
  by_cases h0 : s.size ≤ p
  · rw [if_pos h0] at hr; subst hr; exact ⟨Nat.le_refl _, hp⟩
  · rw [if_neg h0] at hr
    by_cases c1 : xAt s p 119 = true
    · rw [if_pos c1] at hr; subst hr; show p ≤ p + 1 ∧ p + 1 ≤ s.size; omega
    rw [if_neg c1] at hr
    by_cases c2 : xAt s p 87 = true
    · rw [if_pos c2] at hr; subst hr; show p ≤ p + 1 ∧ p + 1 ≤ s.size; omega
    rw [if_neg c2] at hr
    by_cases c3 : xAt s p 115 = true
    · rw [if_pos c3] at hr; subst hr; show p ≤ p + 1 ∧ p + 1 ≤ s.size; omega
    rw [if_neg c3] at hr
    by_cases c4 : xAt s p 83 = true
    · rw [if_pos c4] at hr; subst hr; show p ≤ p + 1 ∧ p + 1 ≤ s.size; omega
    rw [if_neg c4] at hr
    by_cases c5 : xAt s p 110 = true
    · rw [if_pos c5] at hr; subst hr; show p ≤ p + 1 ∧ p + 1 ≤ s.size; omega
    rw [if_neg c5] at hr
    by_cases c6 : xAt s p 114 = true
    · rw [if_pos c6] at hr; subst hr; show p ≤ p + 1 ∧ p + 1 ≤ s.size; omega
    rw [if_neg c6] at hr
    by_cases c7 : xAt s p 116 = true
    · rw [if_pos c7] at hr; subst hr; show p ≤ p + 1 ∧ p + 1 ≤ s.size; omega
    rw [if_neg c7] at hr
    by_cases c8 : xAt s p 120 = true
    · rw [if_pos c8] at hr
      by_cases g : 2 ≤ (dgX 2 0 ((bl s).drop (p + 1))).2
      · rw [if_pos g] at hr; subst hr; show p ≤ p + 1 + (dgX 2 0 ((bl s).drop (p + 1))).2 ∧ p + 1 + (dgX 2 0 ((bl s).drop (p + 1))).2 ≤ s.size; omega
      · rw [if_neg g] at hr; subst hr; show p ≤ p + 1 + (dgX 2 0 ((bl s).drop (p + 1))).2 ∧ p + 1 + (dgX 2 0 ((bl s).drop (p + 1))).2 ≤ s.size; omega
    rw [if_neg c8] at hr
    by_cases c9 : xAt s p 117 = true
    · rw [if_pos c9] at hr
      by_cases xb : xAt s (p + 1) 123 = true
      · have l1 := xAt_lt xb
        rw [if_pos xb] at hr
        by_cases g : 1 ≤ (dgX 6 0 ((bl s).drop (p + 2))).2 ∧ xAt s (p + 2 + (dgX 6 0 ((bl s).drop (p + 2))).2) 125 = true
        · have l2 := xAt_lt g.2
          rw [if_pos g] at hr
          by_cases hv : validB ((dgX 6 0 ((bl s).drop (p + 2))).1 : Int) = true
          · rw [if_pos hv] at hr; subst hr; show p ≤ p + 2 + (dgX 6 0 ((bl s).drop (p + 2))).2 + 1 ∧ p + 2 + (dgX 6 0 ((bl s).drop (p + 2))).2 + 1 ≤ s.size; omega
          · rw [if_neg hv] at hr; subst hr; show p ≤ p + 2 + (dgX 6 0 ((bl s).drop (p + 2))).2 ∧ p + 2 + (dgX 6 0 ((bl s).drop (p + 2))).2 ≤ s.size; omega
        · rw [if_neg g] at hr; subst hr; show p ≤ p + 2 + (dgX 6 0 ((bl s).drop (p + 2))).2 ∧ p + 2 + (dgX 6 0 ((bl s).drop (p + 2))).2 ≤ s.size; omega
      · rw [if_neg xb] at hr; subst hr; show p ≤ p + 1 ∧ p + 1 ≤ s.size; omega
    rw [if_neg c9] at hr
    by_cases c10 : mkB (by' (bl s) p) = true
    · rw [if_pos c10] at hr; subst hr; show p ≤ p + 1 ∧ p + 1 ≤ s.size; omega
    · rw [if_neg c10] at hr; subst hr; show p ≤ p ∧ p ≤ s.size; omega
theorem wr_any {s : ByteArray} (hs : s.size ≤ 65536) {p : Nat} (hp : p ≤ s.size) : WrC s p (wrF s p).1 (wrF s p).2 := by
  unfold wrF
  by_cases h92 : xAt s p 92 = true
  · rw [if_pos h92]
    have hlt := xAt_lt h92
    obtain ⟨h1, h2⟩ := escF_le (s := s) (p := p + 1) (by omega)
    refine ⟨by omega, h2, fun _ => by omega, fun b f v w hr => ?_⟩
    obtain ⟨o, q, ho⟩ : ∃ o q, escF s (p + 1) = (o, q) := ⟨_, _, rfl⟩
    rw [ho]
    exact (xwritten_esc b s p f v w hr hs h92 o q ho).mono fun e w' h => h
  · rw [if_neg h92]
    have h92 : xAt s p 92 = false := by simpa using h92
    by_cases hlt : p < s.size
    · rw [if_pos hlt]
      have hne : (bl s).drop p ≠ [] := drop_ne (by rw [bl_len]; exact hlt)
      refine wr_plain rfl hne hs (fun e => ?_)
      rw [xAt_rest rfl hne, decide_eq_false_iff_not] at h92
      exact h92 e
    · rw [if_neg hlt]
      obtain rfl : p = s.size := by omega
      refine ⟨Nat.le_refl _, Nat.le_refl _, fun h => absurd rfl h, fun b f v w hr => ?_⟩
      have k := xwritten_plain b s s.size f v w hr (Nat.le_refl _) (by omega) h92
      have hnil : bl (s.extract s.size s.size) = [] := by rw [bl_rest]; exact List.drop_eq_nil_of_le (by rw [bl_len]; exact Nat.le_refl _)
      rw [hnil] at k
      exact k.mono fun e w' ⟨he, hr, hg⟩ => ⟨hr, hg, _, _, _, he, rfl⟩
end Go.Proofs.YtodooppapciegaaGreatDoor
namespace Go.Proofs.YtodooppapciegaaGreatDoor
open Go.RowKit Go.Shelf
set_option linter.unusedVariables false
set_option linter.unusedSimpArgs false

/-- A set on its way: its parts; what waits to be put. -/
structure Stg (w0 : World) (b : Nat) (s : ByteArray) (f : Bool) (wr : World) (p : Nat) (v : Value) (lo : Ch) (pv : Value) (Ps : List (Ch → Bool)) (us : List Value) (pd : List (Value × (Ch → Bool))) : Prop where
  rx : Rx wr b s p f v
  lt : b < w0.heap.size
  gr : GrX (fun j => j = b) w0 wr
  low : wr.heap[w0.heap.size]? = some (.cells #[.int .i32 lo.1, .bool lo.2] 71 (0, 0))
  high : ∃ c0 c1, wr.heap[w0.heap.size + 1]? = some (.cells #[.int .i32 c0, .bool c1] 71 (0, 0))
  len : us.length = Ps.length
  row : wr.ownsRow 0 69 1 pv Ps.length us
  each : ∀ t ∈ Ps.zip us, AtP (w0.heap.size + 1) pv wr t.2 t.1
  ob : ∀ g, pv.ownBlock = some g → w0.heap.size + 1 < g
  pend : ∀ t ∈ pd, AtP (w0.heap.size + 1) pv wr t.1 t.2
section
variable {w0 wr w' : World} {b p p' : Nat} {s : ByteArray} {f : Bool} {v pv : Value} {lo lo' : Ch} {Ps : List (Ch → Bool)} {us : List Value} {pd : List (Value × (Ch → Bool))}
theorem Stg.big (h : Stg w0 b s f wr p v lo pv Ps us pd) : w0.heap.size + 1 < wr.heap.size := by
  obtain ⟨_, _, h1⟩ := h.high
  exact (Array.getElem?_eq_some_iff.1 h1).1
theorem Stg.obl (h : Stg w0 b s f wr p v lo pv Ps us pd) : ∀ g, pv.ownBlock = some g → g < wr.heap.size := fun g hg => (own_low h.row hg).2
theorem Stg.frame (h : Stg w0 b s f wr p v lo pv Ps us pd) (hg : GrX (fun j => j = b ∨ j = w0.heap.size ∨ j = w0.heap.size + 1) wr w') (hr : Rx w' b s p' f v)
    (hl : w'.heap[w0.heap.size]? = some (.cells #[.int .i32 lo'.1, .bool lo'.2] 71 (0, 0))) (hh : ∃ c0 c1, w'.heap[w0.heap.size + 1]? = some (.cells #[.int .i32 c0, .bool c1] 71 (0, 0))) : Stg w0 b s f w' p' v lo' pv Ps us pd := by
  have hlt := h.lt
  have hx : ∀ k, w0.heap.size + 1 < k → pv.ownBlock ≠ some k → ¬ (k = b ∨ k = w0.heap.size ∨ k = w0.heap.size + 1) := fun k hk _ hn => by omega
  refine ⟨hr, hlt, h.gr.new hg (fun j hj => hj.elim .inl (fun e => .inr (by omega))), hl, hh, h.len, own_grx h.row hg (fun g hgb hn => by have := h.ob g hgb; omega), fun t ht => (h.each t ht).keep hg hx, h.ob, fun t ht => (h.pend t ht).keep hg hx⟩
theorem Stg.frameB (h : Stg w0 b s f wr p v lo pv Ps us pd) (hg : GrX (fun j => j = b) wr w') (hr : Rx w' b s p' f v) : Stg w0 b s f w' p' v lo pv Ps us pd := by
  obtain ⟨c0, c1, h1⟩ := h.high
  have hlt := h.lt
  have hb := h.big
  exact h.frame (hg.sub fun j hj => .inl hj) hr ((hg.2.2.2.2 _ (by omega) (fun e => by omega)).trans h.low) ⟨c0, c1, (hg.2.2.2.2 _ hb (fun e => by omega)).trans h1⟩
theorem Stg.more (h : Stg w0 b s f wr p v lo pv Ps us pd) {u : Value} {P : Ch → Bool} {n : Nat} (hn : wr.heap.size ≤ n) (hp : PartO (fun _ => False) n w' u P) (h' : Stg w0 b s f w' p' v lo' pv Ps us pd) : Stg w0 b s f w' p' v lo' pv Ps us ((u, P) :: pd) := by
  refine ⟨h'.rx, h'.lt, h'.gr, h'.low, h'.high, h'.len, h'.row, h'.each, h'.ob, fun t ht => ?_⟩
  rcases List.mem_cons.1 ht with rfl | ht
  · obtain ⟨E, h1, h2⟩ := hp
    refine ⟨E, fun k hk => ?_, h2⟩
    have h3 := (h1 k hk).resolve_left id
    have h4 := h.big
    exact ⟨by omega, fun e => by have := h.obl k e; omega⟩
  · exact h'.pend t ht
theorem Stg.less (h : Stg w0 b s f wr p v lo pv Ps us pd) : Stg w0 b s f wr p v lo pv Ps us [] := ⟨h.rx, h.lt, h.gr, h.low, h.high, h.len, h.row, h.each, h.ob, fun t ht => absurd ht (by simp)⟩
theorem Stg.drewN (h : Stg w0 b s f wr p v lo pv Ps us pd) (n : Nat) : Stg w0 b s f (wr.drewN n) p v lo pv Ps us pd := h.frameB (GrX.of_below ⟨rfl, rfl, rfl, Nat.le_refl _, fun _ _ => rfl⟩) (h.rx.drewN n)
theorem Stg.setLow (h : Stg w0 b s f wr p v lo pv Ps us pd) (c0 : Int) (c1 : Bool) : Stg w0 b s f ((wr.setCell ⟨w0.heap.size, 0, none⟩ (.int .i32 c0)).setCell ⟨w0.heap.size, 1, none⟩ (.bool c1)) p v (c0, c1) pv Ps us pd := by
  obtain ⟨d0, d1, h1⟩ := h.high
  refine h.frame ?_ (wrt_rx h.rx (fun e => by have := h.lt; omega)) (heap_setCell_same _ _ 1 _ _ _ (heap_setCell_same wr _ 0 _ _ _ h.low)) ⟨d0, d1, (heap_setCell_other _ ⟨w0.heap.size, 1, none⟩ _ _ (Nat.ne_of_gt (Nat.lt_succ_self _))).trans ((heap_setCell_other _ ⟨w0.heap.size, 0, none⟩ _ _ (Nat.ne_of_gt (Nat.lt_succ_self _))).trans h1)⟩
  exact (GrX.of_grown (grownX_set wr _ 0 _) (fun j hj => .inl (.inr (.inl (by cases hj; rfl))))).trans (GrX.of_grown (grownX_set _ _ 1 _) (fun j hj => .inl (.inr (.inl (by cases hj; rfl)))))
theorem Stg.setHigh (h : Stg w0 b s f wr p v lo pv Ps us pd) (c0 : Int) (c1 : Bool) : Stg w0 b s f ((wr.setCell ⟨w0.heap.size + 1, 0, none⟩ (.int .i32 c0)).setCell ⟨w0.heap.size + 1, 1, none⟩ (.bool c1)) p v lo pv Ps us pd ∧
    ((wr.setCell ⟨w0.heap.size + 1, 0, none⟩ (.int .i32 c0)).setCell ⟨w0.heap.size + 1, 1, none⟩ (.bool c1)).heap[w0.heap.size + 1]? = some (.cells #[.int .i32 c0, .bool c1] 71 (0, 0)) := by
  obtain ⟨d0, d1, h1⟩ := h.high
  have h2 : ((wr.setCell ⟨w0.heap.size + 1, 0, none⟩ (.int .i32 c0)).setCell ⟨w0.heap.size + 1, 1, none⟩ (.bool c1)).heap[w0.heap.size + 1]? = some (.cells #[.int .i32 c0, .bool c1] 71 (0, 0)) := heap_setCell_same _ _ 1 _ _ _ (heap_setCell_same wr _ 0 _ _ _ h1)
  refine ⟨h.frame ?_ (wrt_rx h.rx (fun e => by have := h.lt; omega)) ((heap_setCell_other _ ⟨w0.heap.size + 1, 1, none⟩ _ _ (Nat.ne_of_lt (Nat.lt_succ_self _))).trans ((heap_setCell_other _ ⟨w0.heap.size + 1, 0, none⟩ _ _ (Nat.ne_of_lt (Nat.lt_succ_self _))).trans h.low)) ⟨c0, c1, h2⟩, h2⟩
  exact (GrX.of_grown (grownX_set wr _ 0 _) (fun j hj => .inl (.inr (.inr (by cases hj; rfl))))).trans (GrX.of_grown (grownX_set _ _ 1 _) (fun j hj => .inl (.inr (.inr (by cases hj; rfl)))))
theorem stg_sees (h : Stg w0 b s f wr p v lo pv Ps us pd) (hp : p ≤ s.size) (hs : s.size ≤ 140737488355328) (m : Nat) :
    Calls Tryz.prog 27 #[.pointer (some ⟨b, 0, none⟩), .int .u8 (m : Int)] wr fun e w' => e = .returned (.bool (xAt s p m)) ∧ Stg w0 b s f w' p v lo pv Ps us pd :=
  (xsees_any b s p m f v wr h.rx hp hs).mono fun e w' ⟨he, n, hn⟩ => ⟨he, by rw [hn]; exact h.drewN n⟩
theorem stg_takes (h : Stg w0 b s f wr p v lo pv Ps us pd) (hp : p ≤ s.size) (hs : s.size ≤ 140737488355328) (m : Nat) :
    Calls Tryz.prog 25 #[.pointer (some ⟨b, 0, none⟩), .int .u8 (m : Int)] wr fun e w' => e = .returned (.bool (xAt s p m)) ∧ Stg w0 b s f w' (if xAt s p m = true then p + 1 else p) v lo pv Ps us pd :=
  (xtakes_any b s p m f v wr h.rx hp hs).mono fun e w' ⟨he, hr, hg⟩ => ⟨he, h.frameB (GrX.of_grown hg (fun j hj => .inl (by cases hj; rfl))) hr⟩
theorem stg_bad {q : Nat} (h : Stg w0 b s f wr p v lo pv Ps us pd) (hc : WrC s p .bad q) :
    Calls Tryz.prog 29 #[.pointer (some ⟨b, 0, none⟩)] wr fun e w' => ∃ c0 c1, e = .returned (.tuple #[.nilFunc, .agg #[.int .i32 c0, .bool c1], .bool false]) ∧ Stg w0 b s f w' q v lo pv Ps us pd :=
  (hc.2.2.2 b f v wr h.rx).mono fun e w' ⟨hr, hg, u, c0, c1, he, hu⟩ => ⟨c0, c1, by rw [he, hu], h.frameB hg hr⟩
theorem stg_kind {q : Nat} {P : Ch → Bool} (h : Stg w0 b s f wr p v lo pv Ps us pd) (hc : WrC s p (.kind P) q) :
    Calls Tryz.prog 29 #[.pointer (some ⟨b, 0, none⟩)] wr fun e w' => ∃ fu lb c0 c1, e = .returned (.tuple #[.func (.func fu) #[] lb, .agg #[.int .i32 c0, .bool c1], .bool true]) ∧ Stg w0 b s f w' q v lo pv Ps us ((.func (.func fu) #[] lb, P) :: pd) :=
  (hc.2.2.2 b f v wr h.rx).mono fun e w' ⟨hr, hg, u, c0, c1, he, hu⟩ => by
    obtain ⟨fu, lb, rfl⟩ : ∃ fu lb, u = .func (.func fu) #[] lb := by obtain ⟨_, _, _, fu, lb, hv, _⟩ := hu; exact ⟨fu, lb, hv⟩
    exact ⟨fu, lb, c0, c1, he, h.more (Nat.le_refl _) hu (h.frameB hg hr)⟩
theorem stg_single {q : Nat} {c : Ch} (h : Stg w0 b s f wr p v lo pv Ps us pd) (hc : WrC s p (.one c) q) :
    Calls Tryz.prog 29 #[.pointer (some ⟨b, 0, none⟩)] wr fun e w' => e = .returned (.tuple #[.nilFunc, .agg #[.int .i32 c.1, .bool c.2], .bool true]) ∧ Stg w0 b s f w' q v lo pv Ps us pd :=
  (hc.2.2.2 b f v wr h.rx).mono fun e w' ⟨hr, hg, u, c0, c1, he, hu, hcc⟩ => ⟨by rw [he, hu, hcc], h.frameB hg hr⟩
theorem stg_back (h : Stg w0 b s f wr p v lo pv Ps us pd) (hp : p ≤ s.size) (hs : s.size ≤ 140737488355328) :
    Calls Tryz.prog 53 #[.pointer (some ⟨b, 0, none⟩)] wr fun e w' => e = .returned (.tuple #[]) ∧ Stg w0 b s f w' (p - wdB (bl s) p) v lo pv Ps us pd :=
  (xback_any b s p f v (wdB (bl s) p) wr h.rx hp hs (last_wd s p hp) (wdB_le (bl s) p (by rw [bl_len]; exact hp))).mono fun e w' ⟨he, hr, hg⟩ => ⟨he, h.frameB hg hr⟩
theorem stg_same (h : Stg w0 b s f wr p v lo pv Ps us pd) (d : Ch) :
    Calls Tryz.prog 51 #[chV d] wr fun e w' => ∃ fu lb, e = .returned (.func (.func fu) #[] lb) ∧ Stg w0 b s f w' p v lo pv Ps us ((.func (.func fu) #[] lb, fun c => decide (c = d)) :: pd) :=
  (same_any d wr).mono fun e w' ⟨u, he, hp, hb⟩ => by
    obtain ⟨fu, lb, rfl⟩ : ∃ fu lb, u = .func (.func fu) #[] lb := by obtain ⟨_, fu, lb, hv, _⟩ := hp; exact ⟨fu, lb, hv⟩
    exact ⟨fu, lb, he, h.more (Nat.le_refl _) ⟨_, fun k hk => .inr (Nat.le_of_eq hk.symm), hp⟩ (h.frameB (GrX.of_below hb) (h.rx.below hb))⟩
theorem stg_btw (h : Stg w0 b s f wr p v lo pv Ps us pd) (x y : Int) :
    Calls Tryz.prog 54 #[.int .i32 x, .int .i32 y] wr fun e w' => ∃ fu lb, e = .returned (.func (.func fu) #[] lb) ∧ Stg w0 b s f w' p v lo pv Ps us ((.func (.func fu) #[] lb, btwP x y) :: pd) :=
  (between_any x y wr).mono fun e w' ⟨u, he, hp, hb⟩ => by
    obtain ⟨fu, lb, rfl⟩ : ∃ fu lb, u = .func (.func fu) #[] lb := by obtain ⟨_, fu, lb, hv, _⟩ := hp; exact ⟨fu, lb, hv⟩
    exact ⟨fu, lb, he, h.more (Nat.le_refl _) ⟨_, fun k hk => .inr (by rcases hk with hk | hk <;> omega), hp⟩ (h.frameB (GrX.of_below hb) (h.rx.below hb))⟩
/-- A kind is put behind the others: append has grown the row. -/
theorem Stg.app {u v1 : Value} {P : Ch → Bool} {x1 : World} {t : TypeId} (h : Stg w0 b s f wr p v lo pv Ps us pd) (hu : (u, P) ∈ pd)
    (hg : (wr.alloc (.cells #[u] t)).grownBy x1 pv.ownBlock) (ho : x1.ownsRow 0 69 1 v1 (Ps.length + 1) (us ++ [u])) (hat : v1.ownBlock = pv.ownBlock ∨ ∃ g, v1.ownBlock = some g ∧ (wr.alloc (.cells #[u] t)).heap.size ≤ g) : Stg w0 b s f x1 p v lo v1 (Ps ++ [P]) (us ++ [u]) [] := by
  have hlt := h.lt
  have hbig := h.big
  have hsz : (wr.alloc (.cells #[u] t)).heap.size = wr.heap.size + 1 := by simp
  have hb0 : Below wr.heap.size wr (wr.alloc (.cells #[u] t)) := (Below.refl _ wr).alloc (Nat.le_refl _) _
  have hG : GrX (fun j => pv.ownBlock = some j) wr x1 := (GrX.of_below hb0).trans (GrX.of_grown hg (fun k hk => .inl hk))
  have up : ∀ (u : Value) (P : Ch → Bool), AtP (w0.heap.size + 1) pv wr u P → AtP (w0.heap.size + 1) v1 x1 u P := fun u P ⟨E, g1, g2⟩ =>
    ⟨E, fun j hj => ⟨(g1 j hj).1, fun e => by
      rcases hat with q | ⟨g, q1, q2⟩
      · exact (g1 j hj).2 (q ▸ e)
      · have h9 : g = j := Option.some.inj (q1.symm.trans e)
        have := g2.1 j hj
        omega⟩, g2.keep (hG.keepD fun j hj => ⟨g2.1 j hj, (g1 j hj).2⟩)⟩
  obtain ⟨c0, c1, hh⟩ := h.high
  have hkeep : ∀ k, k < wr.heap.size → (∀ g, pv.ownBlock = some g → k ≠ g) → x1.heap[k]? = wr.heap[k]? := fun k hk hn => hG.2.2.2.2 k hk (fun e => hn k e rfl)
  have hob := h.ob
  refine ⟨(hkeep b (by omega) (fun g hg => by have := hob g hg; omega)).trans h.rx, hlt, h.gr.new hG (fun j hj => .inr (by have := hob j hj; omega)), (hkeep _ (by omega) (fun g hg => by have := hob g hg; omega)).trans h.low, ⟨c0, c1, (hkeep _ (by omega) (fun g hg => by have := hob g hg; omega)).trans hh⟩, by simp [h.len], by rw [List.length_append, List.length_singleton]; exact ho, fun t ht => ?_, fun g hg2 => ?_, fun t ht => absurd ht (by simp)⟩
  · rw [List.zip_append h.len.symm] at ht
    rcases List.mem_append.1 ht with g | g
    · exact up _ _ (h.each t g)
    · obtain rfl : t = (P, u) := by simpa using g
      exact up _ _ (h.pend _ hu)
  · rcases hat with q | ⟨g3, q1, q2⟩
    · exact hob g (q ▸ hg2)
    · have h9 : g3 = g := Option.some.inj (q1.symm.trans hg2)
      omega
theorem Stg.parts (h : Stg w0 b s f wr p v lo pv Ps us pd) : PartsV (fun k => w0.heap.size + 1 < k ∧ k < wr.heap.size) wr pv Ps := by
  refine ⟨fun k hk => hk.2, ?_⟩
  have hob := h.ob
  have hobl := h.obl
  rcases h.row.2 with ⟨e1, e2⟩ | ⟨g, cap, cur, e1, _, hg, _, _, _, hc⟩
  · exact .inl ⟨e1, List.eq_nil_of_length_eq_zero e2⟩
  · subst e1
    have hgo := hob g rfl
    have hgl := hobl g rfl
    refine .inr ⟨g, cap, rfl, ⟨hgo, hgl⟩, fun i P hP => ?_⟩
    obtain ⟨u, hu⟩ : ∃ u, us[i]? = some u := by
      have := (List.getElem?_eq_some_iff.1 hP).1
      have hl := h.len
      exact ⟨us[i]'(by omega), List.getElem?_eq_getElem (by omega)⟩
    have hz : (P, u) ∈ Ps.zip us := List.mem_of_getElem? (i := i) (by rw [List.getElem?_zip_eq_some]; exact ⟨hP, hu⟩)
    refine ⟨u, ?_, ?_⟩
    · have hy := hu
      rw [← hc, List.getElem?_take] at hy
      split at hy
      · exact cel2' hg i u (by simpa using hy)
      · simp at hy
    · obtain ⟨E, g1, g2⟩ := h.each _ hz
      exact g2.wider (fun k hk => ⟨(g1 k hk).1, g2.1 k hk⟩) (fun k hk => hk.2)
theorem stg_whole (h : Stg w0 b s f wr p v lo pv Ps us pd) (o : Bool) (hn : Ps.length ≤ 1048576) :
    Calls Tryz.prog 52 #[.pointer (some ⟨b, 0, none⟩), pv, .bool o] wr fun e w' => ∃ fu lb, e = .returned (.func (.func fu) #[] lb) ∧ PartO (fun _ => False) w0.heap.size w' (.func (.func fu) #[] lb) (setP f o Ps) ∧ Rx w' b s p f v ∧ GrX (fun j => j = b) w0 w' :=
  (xwhole_any b s p f o v _ pv Ps wr h.rx h.parts hn).mono fun e w' ⟨u, he, hp, hb⟩ => by
    obtain ⟨fu, lb, rfl⟩ : ∃ fu lb, u = .func (.func fu) #[] lb := by obtain ⟨_, _, _, fu, lb, hv, _⟩ := hp; exact ⟨fu, lb, hv⟩
    obtain ⟨E, h1, h2⟩ := hp
    have hbig := h.big
    exact ⟨fu, lb, he, ⟨E, fun k hk => .inr (by rcases h1 k hk with g | g <;> omega), h2⟩, h.rx.below hb, h.gr.trans (GrX.of_below hb)⟩
end
/-- What a set reads as, from an element on, with the parts that are read already. -/
inductive El (s : ByteArray) (f oth : Bool) : Nat → List (Ch → Bool) → Option (Ch → Bool) → Nat → Prop
  | fin (p : Nat) (Ps : List (Ch → Bool)) : xAt s p 93 = true → El s f oth p Ps (some (setP f oth Ps)) (p + 1)
  | dash (p : Nat) (Ps : List (Ch → Bool)) : xAt s p 93 = false → xAt s p 45 = true → El s f oth p Ps none p
  | bad (p : Nat) (Ps : List (Ch → Bool)) (q : Nat) : xAt s p 93 = false → xAt s p 45 = false → WrC s p .bad q → El s f oth p Ps none q
  | kind (p : Nat) (Ps : List (Ch → Bool)) (P : Ch → Bool) (q : Nat) (o : Option (Ch → Bool)) (r : Nat) : xAt s p 93 = false → xAt s p 45 = false → WrC s p (.kind P) q → El s f oth q (Ps ++ [P]) o r → El s f oth p Ps o r
  | one (p : Nat) (Ps : List (Ch → Bool)) (c : Ch) (q : Nat) (o : Option (Ch → Bool)) (r : Nat) : xAt s p 93 = false → xAt s p 45 = false → WrC s p (.one c) q → xAt s q 45 = false → El s f oth q (Ps ++ [fun d => decide (d = c)]) o r → El s f oth p Ps o r
  | upNo (p : Nat) (Ps : List (Ch → Bool)) (c : Ch) (q : Nat) : xAt s p 93 = false → xAt s p 45 = false → WrC s p (.one c) q → xAt s q 45 = true → (xAt s (q + 1) 93 = true ∨ xAt s (q + 1) 45 = true) → El s f oth p Ps none (q + 1)
  | upBad (p : Nat) (Ps : List (Ch → Bool)) (c : Ch) (q q2 : Nat) : xAt s p 93 = false → xAt s p 45 = false → WrC s p (.one c) q → xAt s q 45 = true → xAt s (q + 1) 93 = false → xAt s (q + 1) 45 = false → WrC s (q + 1) .bad q2 → El s f oth p Ps none q2
  | upKind (p : Nat) (Ps : List (Ch → Bool)) (c : Ch) (q : Nat) (P : Ch → Bool) (q2 : Nat) : xAt s p 93 = false → xAt s p 45 = false → WrC s p (.one c) q → xAt s q 45 = true → xAt s (q + 1) 93 = false → xAt s (q + 1) 45 = false → WrC s (q + 1) (.kind P) q2 → El s f oth p Ps none (q2 - wdB (bl s) q2)
  | upRev (p : Nat) (Ps : List (Ch → Bool)) (c : Ch) (q : Nat) (d : Ch) (q2 : Nat) : xAt s p 93 = false → xAt s p 45 = false → WrC s p (.one c) q → xAt s q 45 = true → xAt s (q + 1) 93 = false → xAt s (q + 1) 45 = false → WrC s (q + 1) (.one d) q2 → (c.2 = false ∨ d.2 = false ∨ d.1 < c.1) → El s f oth p Ps none (q2 - wdB (bl s) q2)
  | upTo (p : Nat) (Ps : List (Ch → Bool)) (c : Ch) (q : Nat) (d : Ch) (q2 : Nat) (o : Option (Ch → Bool)) (r : Nat) : xAt s p 93 = false → xAt s p 45 = false → WrC s p (.one c) q → xAt s q 45 = true → xAt s (q + 1) 93 = false → xAt s (q + 1) 45 = false → WrC s (q + 1) (.one d) q2 → c.2 = true → d.2 = true → c.1 ≤ d.1 → El s f oth q2 (Ps ++ [btwP c.1 d.1]) o r → El s f oth p Ps o r
end Go.Proofs.YtodooppapciegaaGreatDoor
namespace Go.Proofs.YtodooppapciegaaGreatDoor
open Go.RowKit Go.Shelf
set_option linter.unusedVariables false
set_option linter.unusedSimpArgs false

theorem xscope3 {P : Program} {a : Act} {w : World} {Q : Exit → Act → World → Prop} {c R0 R1 R2 : Code} (J : Nat → Act → World → Prop) (μ : Nat → Act → World → Nat)
    (h0 : findLabel c 0 = some (Code.skip.seq R0)) (h1 : findLabel c 1 = some (Code.skip.seq R1)) (h2 : findLabel c 2 = some (Code.skip.seq R2)) (hJ : ∀ l a w, J l a w → l = 0 ∨ l = 1 ∨ l = 2)
    (p0 : ∀ a w, J 0 a w → R0.wp P (jumpA (fun l' a' w' => J l' a' w' ∧ μ l' a' w' < μ 0 a w) Q) a w)
    (p1 : ∀ a w, J 1 a w → R1.wp P (jumpA (fun l' a' w' => J l' a' w' ∧ μ l' a' w' < μ 1 a w) Q) a w)
    (p2 : ∀ a w, J 2 a w → (∀ a' w', J 1 a' w' → μ 1 a' w' < μ 2 a w → R1.wp P (jumpA (fun l'' a'' w'' => J l'' a'' w'' ∧ μ l'' a'' w'' < μ 2 a w) Q) a' w') → R2.wp P (jumpA (fun l' a' w' => J l' a' w' ∧ μ l' a' w' < μ 2 a w) Q) a w)
    (first : (∀ a w, J 0 a w → R0.wp P (jumpA J Q) a w) → c.wp P (jumpA J Q) a w) : (Code.scope c).wp P Q a w := by
  refine wp_scope_all J μ (first fun a w h => Code.wp_mono (jumpA_mono fun _ _ _ k => k.1) (p0 a w h)) fun l a w h => ?_
  rcases hJ l a w h with rfl | rfl | rfl
  · exact ⟨_, h0, wp_seq (wp_skip (p0 a w h))⟩
  · exact ⟨_, h1, wp_seq (wp_skip (p1 a w h))⟩
  · exact ⟨_, h2, wp_seq (wp_skip (p2 a w h fun a' w' h' hm => Code.wp_mono (jumpA_mono fun _ _ _ k => ⟨k.1, Nat.lt_trans k.2 hm⟩) (p1 a' w' h')))⟩
theorem goJ_then {J : Nat → Act → World → Prop} {Q : Exit → Act → World → Prop} {K : Act → World → Prop} {l : Nat} {a : Act} {w : World} (h : J l a w) : Exit.then K (jumpA J Q) (.goto l) a w := h
theorem goJ_plain {J : Nat → Act → World → Prop} {Q : Exit → Act → World → Prop} {l : Nat} {a : Act} {w : World} (h : J l a w) : jumpA J Q (.goto l) a w := h
theorem goJ_block {J : Nat → Act → World → Prop} {Q : Exit → Act → World → Prop} {K : Act → World → Prop} {l i : Nat} {a : Act} {w : World} (h : J l a w) : Exit.inBlock i (Exit.then K (jumpA J Q)) (.goto l) a w := h
theorem kcs_at : ∀ (its : List Kd) (us : List Value) (i : Nat) (x : Kd) (u : Value), its[i]? = some x → us[i]? = some u → (kcs its us)[i * 2]? = some (.int .i64 (x.1 : Int)) ∧ (kcs its us)[i * 2 + 1]? = some u
  | [], _, i, x, u, h, _ => by simp at h
  | _ :: _, [], i, x, u, _, h => by simp at h
  | y :: its, z :: us, 0, x, u, h1, h2 => by
    obtain rfl : y = x := by simpa using h1
    obtain rfl : z = u := by simpa using h2
    exact ⟨rfl, rfl⟩
  | y :: its, z :: us, i + 1, x, u, h1, h2 => by
    have ih := kcs_at its us i x u (by simpa using h1) (by simpa using h2)
    have e : kcs (y :: its) (z :: us) = .int .i64 (y.1 : Int) :: z :: kcs its us := rfl
    rw [e, show (i + 1) * 2 = i * 2 + 1 + 1 by omega, List.getElem?_cons_succ, List.getElem?_cons_succ, List.getElem?_cons_succ, List.getElem?_cons_succ]
    exact ih
/-- The items that a reader has put, as a pattern keeps them. -/
theorem Rdg.items {w0 wr : World} {b p : Nat} {s : ByteArray} {f : Bool} {v : Value} {its : List Kd} {pd : List (Value × (Ch → Bool))} (h : Rdg w0 b s f wr p v its pd) : ItemsV (fun k => w0.heap.size ≤ k ∧ k < wr.heap.size) wr v its := by
  obtain ⟨us, h1, h2, h3⟩ := h.row
  refine ⟨fun k hk => hk.2, ?_⟩
  have hob := h.ob
  have hobl := h.obl
  rcases h2.2 with ⟨e1, e2⟩ | ⟨g, cap, cur, e1, _, hg, _, _, _, hc⟩
  · exact .inl ⟨e1, List.eq_nil_of_length_eq_zero e2⟩
  · subst e1
    have hgo := hob g rfl
    have hgl := hobl g rfl
    refine .inr ⟨g, cap, rfl, ⟨Nat.le_of_lt hgo, hgl⟩, fun i x hx => ?_⟩
    obtain ⟨u, hu⟩ : ∃ u, us[i]? = some u := by
      have := (List.getElem?_eq_some_iff.1 hx).1
      exact ⟨us[i]'(by omega), List.getElem?_eq_getElem (by omega)⟩
    obtain ⟨k1, k2⟩ := kcs_at its us i x u hx hu
    have hcl : ∀ (j : Nat) (y : Value), (kcs its us)[j]? = some y → wr.cell? ⟨g, j, none⟩ = some y := fun j y hy => by
      rw [← hc, List.getElem?_take] at hy
      split at hy
      · exact cel2' hg j y (by simpa using hy)
      · simp at hy
    have hz : (x, u) ∈ its.zip us := List.mem_of_getElem? (i := i) (by rw [List.getElem?_zip_eq_some]; exact ⟨hx, hu⟩)
    refine ⟨u, hcl _ _ k1, hcl _ _ k2, fun hk => ?_, fun hk => ?_⟩
    · rcases h3 _ hz with ⟨g1, _⟩ | ⟨_, E, g1, g2⟩
      · exact absurd g1 (by show ¬ x.1 < 2; omega)
      · exact g2.wider (fun k hk => ⟨Nat.le_of_lt (g1 k hk).1, g2.1 k hk⟩) (fun k hk => hk.2)
    · rcases h3 _ hz with ⟨_, g1⟩ | ⟨g1, _⟩
      · exact g1
      · exact absurd g1 (by show ¬ 2 ≤ x.1; omega)
theorem rmap (r : Option (List Kd)) (a c : List Kd) : (r.map (c ++ ·)).map (a ++ ·) = r.map ((a ++ c) ++ ·) := by
  cases r <;> simp
theorem rmap1 (r : Option (List Kd)) (a : List Kd) (x : Kd) : (r.map (x :: ·)).map (a ++ ·) = r.map ((a ++ [x]) ++ ·) := by
  cases r <;> simp
def muR (s : ByteArray) (b c : Nat) (wr : World) : Nat := 4 * (s.size - (intOf ((wr.cell? ⟨b, 1, none⟩).getD undef)).toNat) + c
theorem muR_at {s : ByteArray} {b c p : Nat} {f : Bool} {v : Value} {wr : World} (h : Rx wr b s p f v) : muR s b c wr = 4 * (s.size - p) + c := by
  unfold muR
  rw [h.at]
  simp [intOf]
/-- An activation of read: some of its slots. -/
def Sl (x : Act) (ps : List (Nat × Value)) : Prop := x.tmps.size = 87 ∧ x.defers = [] ∧ ∀ t ∈ ps, x.tmps[t.1]? = some t.2
theorem list_range (l : List Value) : l = (List.range l.length).map fun i => l.getD i undef := by
  refine List.ext_getElem? fun i => ?_
  by_cases h : i < l.length
  · rw [List.getElem?_map, List.getElem?_range h, List.getElem?_eq_getElem h]
    simp [List.getD, h]
  · rw [List.getElem?_eq_none (by omega), List.getElem?_eq_none (by simp; omega)]
theorem sl_get {x : Act} {ps : List (Nat × Value)} (h : Sl x ps) : ∃ T : Nat → Value, x = { tmps := #[T 0, T 1, T 2, T 3, T 4, T 5, T 6, T 7, T 8, T 9, T 10, T 11, T 12, T 13, T 14, T 15, T 16, T 17, T 18, T 19, T 20, T 21, T 22, T 23, T 24, T 25, T 26, T 27, T 28, T 29, T 30, T 31, T 32, T 33, T 34, T 35, T 36, T 37, T 38, T 39, T 40, T 41, T 42, T 43, T 44, T 45, T 46, T 47, T 48, T 49, T 50, T 51, T 52, T 53, T 54, T 55, T 56, T 57, T 58, T 59, T 60, T 61, T 62, T 63, T 64, T 65, T 66, T 67, T 68, T 69, T 70, T 71, T 72, T 73, T 74, T 75, T 76, T 77, T 78, T 79, T 80, T 81, T 82, T 83, T 84, T 85, T 86], defers := [] } ∧ ∀ t ∈ ps, T t.1 = t.2 := by
  obtain ⟨h1, h2, h3⟩ := h
  obtain ⟨tm, df⟩ := x
  simp only at h1 h2 h3
  subst h2
  have hl : tm.toList.length = 87 := h1
  have k := list_range tm.toList
  rw [hl] at k
  refine ⟨fun i => tm.toList.getD i undef, ?_, fun t ht => ?_⟩
  · have : tm = #[tm.toList.getD 0 undef, tm.toList.getD 1 undef, tm.toList.getD 2 undef, tm.toList.getD 3 undef, tm.toList.getD 4 undef, tm.toList.getD 5 undef, tm.toList.getD 6 undef, tm.toList.getD 7 undef, tm.toList.getD 8 undef, tm.toList.getD 9 undef, tm.toList.getD 10 undef, tm.toList.getD 11 undef, tm.toList.getD 12 undef, tm.toList.getD 13 undef, tm.toList.getD 14 undef, tm.toList.getD 15 undef, tm.toList.getD 16 undef, tm.toList.getD 17 undef, tm.toList.getD 18 undef, tm.toList.getD 19 undef, tm.toList.getD 20 undef, tm.toList.getD 21 undef, tm.toList.getD 22 undef, tm.toList.getD 23 undef, tm.toList.getD 24 undef, tm.toList.getD 25 undef, tm.toList.getD 26 undef, tm.toList.getD 27 undef, tm.toList.getD 28 undef, tm.toList.getD 29 undef, tm.toList.getD 30 undef, tm.toList.getD 31 undef, tm.toList.getD 32 undef, tm.toList.getD 33 undef, tm.toList.getD 34 undef, tm.toList.getD 35 undef, tm.toList.getD 36 undef, tm.toList.getD 37 undef, tm.toList.getD 38 undef, tm.toList.getD 39 undef, tm.toList.getD 40 undef, tm.toList.getD 41 undef, tm.toList.getD 42 undef, tm.toList.getD 43 undef, tm.toList.getD 44 undef, tm.toList.getD 45 undef, tm.toList.getD 46 undef, tm.toList.getD 47 undef, tm.toList.getD 48 undef, tm.toList.getD 49 undef, tm.toList.getD 50 undef, tm.toList.getD 51 undef, tm.toList.getD 52 undef, tm.toList.getD 53 undef, tm.toList.getD 54 undef, tm.toList.getD 55 undef, tm.toList.getD 56 undef, tm.toList.getD 57 undef, tm.toList.getD 58 undef, tm.toList.getD 59 undef, tm.toList.getD 60 undef, tm.toList.getD 61 undef, tm.toList.getD 62 undef, tm.toList.getD 63 undef, tm.toList.getD 64 undef, tm.toList.getD 65 undef, tm.toList.getD 66 undef, tm.toList.getD 67 undef, tm.toList.getD 68 undef, tm.toList.getD 69 undef, tm.toList.getD 70 undef, tm.toList.getD 71 undef, tm.toList.getD 72 undef, tm.toList.getD 73 undef, tm.toList.getD 74 undef, tm.toList.getD 75 undef, tm.toList.getD 76 undef, tm.toList.getD 77 undef, tm.toList.getD 78 undef, tm.toList.getD 79 undef, tm.toList.getD 80 undef, tm.toList.getD 81 undef, tm.toList.getD 82 undef, tm.toList.getD 83 undef, tm.toList.getD 84 undef, tm.toList.getD 85 undef, tm.toList.getD 86 undef] := by
      apply Array.toList_inj.1
      exact k
    exact congrArg (fun m => ({ tmps := m, defers := [] } : Act)) this
  · have h4 := h3 t ht
    rw [← Array.getElem?_toList] at h4
    simp [List.getD, h4]
theorem sl_two {x : Act} {a c : Value} (h1 : x.tmps.size = 87) (h2 : x.defers = []) (h3 : x.tmps[0]? = some a) (h4 : x.tmps[4]? = some c) : Sl x [(0, a), (4, c)] :=
  ⟨h1, h2, fun t ht => by
    rcases List.mem_cons.1 ht with rfl | ht
    · exact h3
    · obtain rfl := List.mem_singleton.1 ht
      exact h4⟩
theorem sl_three {x : Act} {a c d : Value} (h1 : x.tmps.size = 87) (h2 : x.defers = []) (h3 : x.tmps[0]? = some a) (h4 : x.tmps[4]? = some c) (h5 : x.tmps[3]? = some d) : Sl x [(0, a), (4, c), (3, d)] :=
  ⟨h1, h2, fun t ht => by
    rcases List.mem_cons.1 ht with rfl | ht
    · exact h3
    · rcases List.mem_cons.1 ht with rfl | ht
      · exact h4
      · obtain rfl := List.mem_singleton.1 ht
        exact h5⟩
/-- What holds at the three labels: next, count, set. -/
def RJ (w0 : World) (b : Nat) (s : ByteArray) (f : Bool) (R : Option (List Kd)) (q : Nat) : Nat → Act → World → Prop
  | 0, x, wr => ∃ (p : Nat) (v : Value) (its : List Kd) (r : Option (List Kd)), Sl x [(0, .pointer (some ⟨b, 0, none⟩)), (4, .pointer (some ⟨w0.heap.size, 0, none⟩))] ∧ Rdg w0 b s f wr p v its [] ∧ p ≤ s.size ∧ its.length ≤ 2 * p ∧ Rd s f p r q ∧ R = r.map (its ++ ·)
  | 1, x, wr => ∃ (p : Nat) (v : Value) (its : List Kd) (P : Ch → Bool) (r : Option (List Kd)) (fu : Nat) (lb : Array Value), Sl x [(0, .pointer (some ⟨b, 0, none⟩)), (4, .pointer (some ⟨w0.heap.size, 0, none⟩)), (3, .func (.func fu) #[] lb)] ∧ Rdg w0 b s f wr p v its [(.func (.func fu) #[] lb, P)] ∧ p ≤ s.size ∧ its.length + 2 ≤ 2 * p ∧ Rd s f (cntN s p) r q ∧ R = (r.map (cntI s p P ++ ·)).map (its ++ ·)
  | 2, x, wr => ∃ (p p' : Nat) (v : Value) (its : List Kd), Sl x [(0, .pointer (some ⟨b, 0, none⟩)), (4, .pointer (some ⟨w0.heap.size, 0, none⟩))] ∧ Rdg w0 b s f wr p v its [] ∧ p ≤ s.size ∧ its.length ≤ 2 * p ∧ ((∃ P r, SetC s f p (some P) p' ∧ Rd s f (cntN s p') r q ∧ R = (r.map (cntI s p' P ++ ·)).map (its ++ ·)) ∨ (SetC s f p none p' ∧ q = p' ∧ R = none))
  | _, _, _ => False

set_option maxRecDepth 100000 in
set_option maxHeartbeats 16000000 in
theorem xread_any (b : Nat) (s : ByteArray) (w0 : World) (h : Rx w0 b s 0 false (.slice none 0 0)) (hs : s.size ≤ 65536) (f : Bool) (p0 : Nat)
    (hf : if Lib.hasPrefix s.data.toList (⟨#[92, 105]⟩ : ByteArray).data.toList = true then f = true ∧ p0 = 2 ∧ 2 ≤ s.size else f = false ∧ p0 = 0) (R : Option (List Kd)) (q : Nat) (hR : Rd s f p0 R q) :
    Calls Tryz.prog 13 #[.pointer (some ⟨b, 0, none⟩)] w0 fun e w' => e = .returned (.bool R.isSome) ∧ ∃ v, Rx w' b s q f v ∧ GrX (fun j => j = b) w0 w' ∧ ∀ its, R = some its → its.length ≤ 2 * s.size ∧ ItemsV (fun k => w0.heap.size ≤ k ∧ k < w'.heap.size) w' v its := by
  have HS1 := hide hs
  have HS : Hid (s.size ≤ 140737488355328) := by show _ ≤ _; omega
  have hB : Below w0.heap.size w0 (w0.alloc (.cells #[.int .i32 0, .bool false] 71)) := (Below.refl _ w0).alloc (Nat.le_refl _) _
  have h4 := heap_alloc_new w0 (.cells #[.int .i32 0, .bool false] 71)
  have hlt := h.lt
  have pn := fun W => part_nil W
  have ps := fun gf lb W => part_set gf lb W
  have start : ∀ W, GrX (fun j => j = b) (w0.alloc (.cells #[.int .i32 0, .bool false] 71)) W → Rx W b s p0 f (.slice none 0 0) → Rdg w0 b s f W p0 (.slice none 0 0) [] [] := fun W hg hr =>
    ⟨hr, hlt, (GrX.of_below hB).trans hg, ⟨0, false, (hg.2.2.2.2 _ (Array.getElem?_eq_some_iff.1 h4).1 (fun e => by omega)).trans h4⟩, ⟨[], rfl, World.ownsRow_nil _ _ _ _, fun t ht => absurd ht (by simp)⟩, fun g hg => by simp [Value.ownBlock] at hg, fun t ht => absurd ht (by simp)⟩
  have HRX := hide (h.below hB)
  have START := hide start
  have HRD := hide hR
  have HF := hide hf
  have hp0 : p0 ≤ s.size := by
    split at hf
    · omega
    · omega
  have HP0 := hide hp0
  clear h hB h4 start hR hf hp0 hs hlt
  go_enter Tryz.func13, Tryz.ntmps13
  go_wp2_with (fail)
  refine xscope3 (RJ w0 b s f R q) (fun l _ wr => muR s b (if l = 0 then 0 else 1) wr) rfl rfl rfl (fun l a w h => ?_) ?_ ?_ ?_ ?_
  · match l, h with
    | 0, _ => exact .inl rfl
    | 1, _ => exact .inr (.inl rfl)
    | 2, _ => exact .inr (.inr rfl)
  · -- next
    intro x wr hJ
    obtain ⟨p, v, its, r, hSl, hRd, hp, hl, hr, hRe⟩ := hJ
    obtain ⟨T, rfl, hT⟩ := sl_get hSl
    have h0 : T 0 = .pointer (some ⟨b, 0, none⟩) := hT (0, .pointer (some ⟨b, 0, none⟩)) (by simp)
    have h4 : T 4 = .pointer (some ⟨w0.heap.size, 0, none⟩) := hT (4, .pointer (some ⟨w0.heap.size, 0, none⟩)) (by simp)
    rw [h0, h4]
    clear h0 h4 hT hSl
    simp only
    rw [muR_at hRd.rx]
    have HR := hide hRd
    have HP := hide hp
    have HL := hide hl
    have HE := hide hRe
    clear START HRX HRD HF HP0 hRd hp hl hRe
    cases hr with
    | fin =>
      have hdn : decide (s.size = s.size) = true := decide_eq_true rfl
      go_wp2_with (first
        | (go_at_call 24; refine Calls.mono (rdg_done (by exact HR.out) (by have := HP.out; omega)) ?_; rintro e x ⟨rfl, hRn⟩; replace HR := hide hRn; clear hRn; simp only [hdn]))
      rw [jumpA_ret]
      go_ret
      refine ⟨by rw [HE.out]; rfl, v, HR.out.rx, HR.out.gr, fun its' h' => ?_⟩
      obtain rfl : its = its' := by
        have := HE.out.symm.trans h'
        simpa using this
      exact ⟨HL.out, HR.out.items⟩
    | beg _ r0 _ h1 h2 =>
      have HD := hide h2
      have x94 := h1
      have hlt := xAt_lt h1
      have hdn : decide (p = s.size) = false := decide_eq_false (by omega)
      have HLT := hide hlt
      clear h1 h2 hlt
      go_wp2_with (first
        | (go_at_call 24; refine Calls.mono (rdg_done (by exact HR.out) (by have := HP.out; omega)) ?_; rintro e x ⟨rfl, hRn⟩; replace HR := hide hRn; clear hRn; simp only [hdn])
        | (go_at_call 25; refine Calls.mono (rdg_takes (by exact HR.out) (by have := HP.out; omega) HS.out _) ?_; rintro e x ⟨rfl, hRn⟩; replace HR := hide hRn; clear hRn; simp only [x94, Bool.false_eq_true, if_false, if_true] at HR ⊢)
        | (go_at_call 26; refine Calls.mono (rdg_put (by exact HR.out) 0 .nilFunc nP (.inl ⟨by decide, rfl⟩) (by have := HL.out; have := HP.out; have := HS1.out; simp; omega)) ?_; rintro e x ⟨rfl, vn, hRn⟩; replace HR := hide hRn; clear hRn))
      try go_step3
      first | refine goJ_then ?_ | refine goJ_plain ?_ | refine goJ_block ?_
      have hrx := HR.out.rx
      refine ⟨⟨p + 1, vn, its ++ [(0, nP)], r0, sl_two rfl rfl rfl rfl, HR.out, HLT.out, by have := HL.out; simp; omega, HD.out, by rw [HE.out, rmap1]⟩, ?_⟩
      rw [muR_at hrx]
      have := HLT.out
      simp
      omega
    | stop _ r0 _ h1 h2 =>
      have HD := hide h2
      have x94 := xAt_other h1 (k := 94) (by decide)
      have x36 := h1
      have hlt := xAt_lt h1
      have hdn : decide (p = s.size) = false := decide_eq_false (by omega)
      have HLT := hide hlt
      clear h1 h2 hlt
      go_wp2_with (first
        | (go_at_call 24; refine Calls.mono (rdg_done (by exact HR.out) (by have := HP.out; omega)) ?_; rintro e x ⟨rfl, hRn⟩; replace HR := hide hRn; clear hRn; simp only [hdn])
        | (go_at_call 25; refine Calls.mono (rdg_takes (by exact HR.out) (by have := HP.out; omega) HS.out _) ?_; rintro e x ⟨rfl, hRn⟩; replace HR := hide hRn; clear hRn; simp only [x94, x36, Bool.false_eq_true, if_false, if_true] at HR ⊢)
        | (go_at_call 26; refine Calls.mono (rdg_put (by exact HR.out) 1 .nilFunc nP (.inl ⟨by decide, rfl⟩) (by have := HL.out; have := HP.out; have := HS1.out; simp; omega)) ?_; rintro e x ⟨rfl, vn, hRn⟩; replace HR := hide hRn; clear hRn))
      try go_step3
      first | refine goJ_then ?_ | refine goJ_plain ?_ | refine goJ_block ?_
      have hrx := HR.out.rx
      refine ⟨⟨p + 1, vn, its ++ [(1, nP)], r0, sl_two rfl rfl rfl rfl, HR.out, HLT.out, by have := HL.out; simp; omega, HD.out, by rw [HE.out, rmap1]⟩, ?_⟩
      rw [muR_at hrx]
      have := HLT.out
      simp
      omega
    | rep _ h1 =>
      rcases h1 with h1 | h1 | h1
      all_goals (
        have hlt := xAt_lt h1
        have hdn : decide (q = s.size) = false := decide_eq_false (by omega)
        have x94 := xAt_other h1 (k := 94) (by decide)
        have x36 := xAt_other h1 (k := 36) (by decide)
        first
          | have x42 : xAt s q 42 = true := h1
          | have x42 := xAt_other h1 (k := 42) (by decide)
        first
          | have x43 : xAt s q 43 = true := h1
          | have x43 := xAt_other h1 (k := 43) (by decide)
        first
          | have x63 : xAt s q 63 = true := h1
          | have x63 := xAt_other h1 (k := 63) (by decide)
        clear h1 hlt
        go_wp2_with (first
          | (go_at_call 24; refine Calls.mono (rdg_done (by exact HR.out) (by have := HP.out; omega)) ?_; rintro e x ⟨rfl, hRn⟩; replace HR := hide hRn; clear hRn; simp only [hdn])
          | (go_at_call 25; refine Calls.mono (rdg_takes (by exact HR.out) (by have := HP.out; omega) HS.out _) ?_; rintro e x ⟨rfl, hRn⟩; replace HR := hide hRn; clear hRn; simp only [x94, x36, Bool.false_eq_true, if_false, if_true] at HR ⊢)
          | (go_at_call 27; refine Calls.mono (rdg_sees (by exact HR.out) (by have := HP.out; omega) HS.out _) ?_; rintro e x ⟨rfl, hRn⟩; replace HR := hide hRn; clear hRn; simp only [x42, x43, x63]))
        rw [jumpA_ret]
        go_ret
        exact ⟨by rw [HE.out]; rfl, v, HR.out.rx, HR.out.gr, fun its' h' => by rw [HE.out] at h'; simp at h'⟩)
    | dot _ r0 _ h1 h2 =>
      have HD := hide h2
      have hlt := xAt_lt h1
      have hdn : decide (p = s.size) = false := decide_eq_false (by omega)
      have x94 := xAt_other h1 (k := 94) (by decide)
      have x36 := xAt_other h1 (k := 36) (by decide)
      have x42 := xAt_other h1 (k := 42) (by decide)
      have x43 := xAt_other h1 (k := 43) (by decide)
      have x63 := xAt_other h1 (k := 63) (by decide)
      have x46 := h1
      have HLT := hide hlt
      clear h1 h2 hlt
      go_wp2_with (first
        | (go_at_call 24; refine Calls.mono (rdg_done (by exact HR.out) (by have := HP.out; omega)) ?_; rintro e x ⟨rfl, hRn⟩; replace HR := hide hRn; clear hRn; simp only [hdn])
        | (go_at_call 25; refine Calls.mono (rdg_takes (by exact HR.out) (by have := HP.out; omega) HS.out _) ?_; rintro e x ⟨rfl, hRn⟩; replace HR := hide hRn; clear hRn; simp only [x94, x36, x46, Bool.false_eq_true, if_false, if_true] at HR ⊢)
        | (go_at_call 27; refine Calls.mono (rdg_sees (by exact HR.out) (by have := HP.out; omega) HS.out _) ?_; rintro e x ⟨rfl, hRn⟩; replace HR := hide hRn; clear hRn; simp only [x42, x43, x63]))
      try go_step3
      first | refine goJ_then ?_ | refine goJ_plain ?_ | refine goJ_block ?_
      have hrx := HR.out.rx
      refine ⟨⟨p + 1, v, its, _, r0, _, _, sl_three rfl rfl rfl rfl rfl, HR.out.dot, HLT.out, by have := HL.out; omega, HD.out, HE.out⟩, ?_⟩
      rw [muR_at hrx]
      have := HLT.out
      simp
      omega
    | set _ p' P r0 _ h1 h2 h3 =>
      have HC := hide h2
      have HD := hide h3
      have hlt := xAt_lt h1
      have hdn : decide (p = s.size) = false := decide_eq_false (by omega)
      have x94 := xAt_other h1 (k := 94) (by decide)
      have x36 := xAt_other h1 (k := 36) (by decide)
      have x42 := xAt_other h1 (k := 42) (by decide)
      have x43 := xAt_other h1 (k := 43) (by decide)
      have x63 := xAt_other h1 (k := 63) (by decide)
      have x46 := xAt_other h1 (k := 46) (by decide)
      have x91 := h1
      have HLT := hide hlt
      clear h1 h2 h3 hlt
      go_wp2_with (first
        | (go_at_call 24; refine Calls.mono (rdg_done (by exact HR.out) (by have := HP.out; omega)) ?_; rintro e x ⟨rfl, hRn⟩; replace HR := hide hRn; clear hRn; simp only [hdn])
        | (go_at_call 25; refine Calls.mono (rdg_takes (by exact HR.out) (by have := HP.out; omega) HS.out _) ?_; rintro e x ⟨rfl, hRn⟩; replace HR := hide hRn; clear hRn; simp only [x94, x36, x46, x91, Bool.false_eq_true, if_false, if_true] at HR ⊢)
        | (go_at_call 27; refine Calls.mono (rdg_sees (by exact HR.out) (by have := HP.out; omega) HS.out _) ?_; rintro e x ⟨rfl, hRn⟩; replace HR := hide hRn; clear hRn; simp only [x42, x43, x63]))
      try go_step3
      first | refine goJ_then ?_ | refine goJ_plain ?_ | refine goJ_block ?_
      have hrx := HR.out.rx
      refine ⟨⟨p + 1, p', v, its, sl_two rfl rfl rfl rfl, HR.out, HLT.out, by have := HL.out; omega, .inl ⟨P, r0, HC.out, HD.out, HE.out⟩⟩, ?_⟩
      rw [muR_at hrx]
      have := HLT.out
      simp
      omega
    | noset _ p' h1 h2 =>
      have HC := hide h2
      have hlt := xAt_lt h1
      have hdn : decide (p = s.size) = false := decide_eq_false (by omega)
      have x94 := xAt_other h1 (k := 94) (by decide)
      have x36 := xAt_other h1 (k := 36) (by decide)
      have x42 := xAt_other h1 (k := 42) (by decide)
      have x43 := xAt_other h1 (k := 43) (by decide)
      have x63 := xAt_other h1 (k := 63) (by decide)
      have x46 := xAt_other h1 (k := 46) (by decide)
      have x91 := h1
      have HLT := hide hlt
      clear h1 h2 hlt
      go_wp2_with (first
        | (go_at_call 24; refine Calls.mono (rdg_done (by exact HR.out) (by have := HP.out; omega)) ?_; rintro e x ⟨rfl, hRn⟩; replace HR := hide hRn; clear hRn; simp only [hdn])
        | (go_at_call 25; refine Calls.mono (rdg_takes (by exact HR.out) (by have := HP.out; omega) HS.out _) ?_; rintro e x ⟨rfl, hRn⟩; replace HR := hide hRn; clear hRn; simp only [x94, x36, x46, x91, Bool.false_eq_true, if_false, if_true] at HR ⊢)
        | (go_at_call 27; refine Calls.mono (rdg_sees (by exact HR.out) (by have := HP.out; omega) HS.out _) ?_; rintro e x ⟨rfl, hRn⟩; replace HR := hide hRn; clear hRn; simp only [x42, x43, x63]))
      try go_step3
      first | refine goJ_then ?_ | refine goJ_plain ?_ | refine goJ_block ?_
      have hrx := HR.out.rx
      refine ⟨⟨p + 1, q, v, its, sl_two rfl rfl rfl rfl, HR.out, HLT.out, by have := HL.out; omega, .inr ⟨HC.out, rfl, HE.out⟩⟩, ?_⟩
      rw [muR_at hrx]
      have := HLT.out
      simp
      omega
    | kind _ p' P r0 _ h1 h2 h3 =>
      have HC := hide h2
      have HD := hide h3
      obtain ⟨hlt, x94, x36, x42, x43, x63, x46, x91⟩ := h1
      have hdn : decide (p = s.size) = false := decide_eq_false (by omega)
      have HLT := hide hlt
      clear h2 h3 hlt
      go_upto_region 20 with (first
        | (go_at_call 24; refine Calls.mono (rdg_done (by exact HR.out) (by have := HP.out; omega)) ?_; rintro e x ⟨rfl, hRn⟩; replace HR := hide hRn; clear hRn; simp only [hdn])
        | (go_at_call 25; refine Calls.mono (rdg_takes (by exact HR.out) (by have := HP.out; omega) HS.out _) ?_; rintro e x ⟨rfl, hRn⟩; replace HR := hide hRn; clear hRn; simp only [x94, x36, x46, x91, Bool.false_eq_true, if_false, if_true] at HR ⊢)
        | (go_at_call 27; refine Calls.mono (rdg_sees (by exact HR.out) (by have := HP.out; omega) HS.out _) ?_; rintro e x ⟨rfl, hRn⟩; replace HR := hide hRn; clear hRn; simp only [x42, x43, x63]))
      obtain ⟨s0, s1, hsg⟩ := HR.out.sg
      go_upto_region 21 with (go_at_call 29; refine Calls.mono (rdg_kind (by exact HR.out) HC.out) ?_; rintro e x9 ⟨fu, lb, c0, c1, rfl, hRn⟩; replace HR := hide hRn; obtain ⟨s0', s1', hsg'⟩ := hRn.sg; obtain ⟨a40, a41, a4f⟩ := chr_facts (b := b) hsg'; clear hRn hsg')
      obtain ⟨hrs, hst⟩ := HR.out.store c0 c1
      replace HR := hide hrs
      clear hrs
      generalize (x9.setCell ⟨w0.heap.size, 0, none⟩ (.int .i32 c0)).setCell ⟨w0.heap.size, 1, none⟩ (.bool c1) = y9 at *
      clear a40 a41 a4f
      go_wp2_with (fail)
      try go_step3
      first | refine goJ_then ?_ | refine goJ_plain ?_ | refine goJ_block ?_
      have hrx := HR.out.rx
      have hq1 := HC.out.1
      have hq2 := HC.out.2.1
      have hq3 := HC.out.2.2.1 (by simp)
      refine ⟨⟨p', v, its, P, r0, fu, lb, sl_three rfl rfl rfl rfl rfl, HR.out, hq2, by have := HL.out; omega, HD.out, HE.out⟩, ?_⟩
      rw [muR_at hrx]
      have := HLT.out
      simp
      omega
    | one _ p' c r0 _ h1 h2 h3 =>
      have HC := hide h2
      have HD := hide h3
      obtain ⟨hlt, x94, x36, x42, x43, x63, x46, x91⟩ := h1
      have hdn : decide (p = s.size) = false := decide_eq_false (by omega)
      have HLT := hide hlt
      clear h2 h3 hlt
      go_upto_region 20 with (first
        | (go_at_call 24; refine Calls.mono (rdg_done (by exact HR.out) (by have := HP.out; omega)) ?_; rintro e x ⟨rfl, hRn⟩; replace HR := hide hRn; clear hRn; simp only [hdn])
        | (go_at_call 25; refine Calls.mono (rdg_takes (by exact HR.out) (by have := HP.out; omega) HS.out _) ?_; rintro e x ⟨rfl, hRn⟩; replace HR := hide hRn; clear hRn; simp only [x94, x36, x46, x91, Bool.false_eq_true, if_false, if_true] at HR ⊢)
        | (go_at_call 27; refine Calls.mono (rdg_sees (by exact HR.out) (by have := HP.out; omega) HS.out _) ?_; rintro e x ⟨rfl, hRn⟩; replace HR := hide hRn; clear hRn; simp only [x42, x43, x63]))
      obtain ⟨c0, c1⟩ := c
      go_upto_region 21 with (go_at_call 29; refine Calls.mono (rdg_single (by exact HR.out) HC.out) ?_; rintro e x9 ⟨rfl, hRn⟩; replace HR := hide hRn; obtain ⟨s0', s1', hsg'⟩ := hRn.sg; obtain ⟨a40, a41, a4f⟩ := chr_facts (b := b) hsg'; clear hRn hsg')
      obtain ⟨hrs, hst⟩ := HR.out.store c0 c1
      replace HR := hide hrs
      clear hrs
      generalize (x9.setCell ⟨w0.heap.size, 0, none⟩ (.int .i32 c0)).setCell ⟨w0.heap.size, 1, none⟩ (.bool c1) = y9 at *
      obtain ⟨b40, b41, b4f⟩ := chr_facts (b := b) hst
      clear a40 a41 a4f hst
      go_wp2_with (go_at_call 30; refine Calls.mono (rdg_one (by exact HR.out) (c0, c1)) ?_; rintro e x ⟨u, rfl, hRn, fu, lb, rfl⟩; replace HR := hide hRn; clear hRn)
      try go_step3
      first | refine goJ_then ?_ | refine goJ_plain ?_ | refine goJ_block ?_
      have hrx := HR.out.rx
      have hq1 := HC.out.1
      have hq2 := HC.out.2.1
      have hq3 := HC.out.2.2.1 (by simp)
      refine ⟨⟨p', v, its, _, r0, fu, lb, sl_three rfl rfl rfl rfl rfl, HR.out, hq2, by have := HL.out; omega, HD.out, HE.out⟩, ?_⟩
      rw [muR_at hrx]
      have := HLT.out
      simp
      omega
    | no _ p' h1 h2 =>
      have HC := hide h2
      obtain ⟨hlt, x94, x36, x42, x43, x63, x46, x91⟩ := h1
      have hdn : decide (p = s.size) = false := decide_eq_false (by omega)
      have HLT := hide hlt
      clear h2 hlt
      go_upto_region 20 with (first
        | (go_at_call 24; refine Calls.mono (rdg_done (by exact HR.out) (by have := HP.out; omega)) ?_; rintro e x ⟨rfl, hRn⟩; replace HR := hide hRn; clear hRn; simp only [hdn])
        | (go_at_call 25; refine Calls.mono (rdg_takes (by exact HR.out) (by have := HP.out; omega) HS.out _) ?_; rintro e x ⟨rfl, hRn⟩; replace HR := hide hRn; clear hRn; simp only [x94, x36, x46, x91, Bool.false_eq_true, if_false, if_true] at HR ⊢)
        | (go_at_call 27; refine Calls.mono (rdg_sees (by exact HR.out) (by have := HP.out; omega) HS.out _) ?_; rintro e x ⟨rfl, hRn⟩; replace HR := hide hRn; clear hRn; simp only [x42, x43, x63]))
      go_upto_region 21 with (go_at_call 29; refine Calls.mono (rdg_bad (by exact HR.out) HC.out) ?_; rintro e x9 ⟨c0, c1, rfl, hRn⟩; replace HR := hide hRn; obtain ⟨s0', s1', hsg'⟩ := hRn.sg; obtain ⟨a40, a41, a4f⟩ := chr_facts (b := b) hsg'; clear hRn hsg')
      obtain ⟨hrs, hst⟩ := HR.out.store c0 c1
      replace HR := hide hrs
      clear hrs
      generalize (x9.setCell ⟨w0.heap.size, 0, none⟩ (.int .i32 c0)).setCell ⟨w0.heap.size, 1, none⟩ (.bool c1) = y9 at *
      clear a40 a41 a4f
      go_wp2_with (fail)
      rw [jumpA_ret]
      go_ret
      exact ⟨by rw [HE.out]; rfl, v, HR.out.rx, HR.out.gr, fun its' h' => by rw [HE.out] at h'; simp at h'⟩
  · -- count
    intro x wr hJ
    obtain ⟨p, v, its, P, r, fu, lb, hSl, hRd, hp, hl, hr, hRe⟩ := hJ
    obtain ⟨T, rfl, hT⟩ := sl_get hSl
    have h0 : T 0 = .pointer (some ⟨b, 0, none⟩) := hT (0, .pointer (some ⟨b, 0, none⟩)) (by simp)
    have h4 : T 4 = .pointer (some ⟨w0.heap.size, 0, none⟩) := hT (4, .pointer (some ⟨w0.heap.size, 0, none⟩)) (by simp)
    have h3 : T 3 = .func (.func fu) #[] lb := hT (3, .func (.func fu) #[] lb) (by simp)
    rw [h0, h4, h3]
    clear h0 h3 h4 hT hSl
    simp only
    rw [muR_at hRd.rx]
    have HR := hide hRd
    have HP := hide hp
    have HL := hide hl
    clear START HRX HRD HF HP0 hRd hp hl pn ps
    by_cases x42 : xAt s p 42 = true
    · have e1 : cntI s p P = [(4, P)] := by unfold cntI; rw [if_pos x42]
      have e2 : cntN s p = p + 1 := by unfold cntN; rw [if_pos x42]
      have hlt := xAt_lt x42
      rw [e2] at hr
      rw [e1] at hRe
      have HD := hide hr
      have HE := hide hRe
      have HLT := hide hlt
      clear e1 e2 hr hRe hlt
      have M1 := hide trivial
      go_wp2_with (first
        | (go_at_call 25; refine Calls.mono (rdg_takes (by exact HR.out) (by have := HP.out; omega) HS.out _) ?_; rintro e x ⟨rfl, hRn⟩; replace HR := hide hRn; clear hRn; simp only [x42, Bool.false_eq_true, if_false, if_true] at HR ⊢)
        | (go_at_call 26; refine Calls.mono (rdg_put (by exact HR.out) 4 (.func (.func fu) #[] lb) P (.inr ⟨by decide, by simp⟩) (by have := HL.out; have := HP.out; have := HS1.out; simp; omega)) ?_; rintro e x ⟨rfl, vn, hRn⟩; replace HR := hide hRn; clear hRn))
      try go_step3
      first | refine goJ_then ?_ | refine goJ_plain ?_ | refine goJ_block ?_
      have hrx := HR.out.rx
      refine ⟨⟨p + 1, _, its ++ [(4, P)], r, sl_two rfl rfl rfl rfl, HR.out.less, HLT.out, by have := HL.out; simp; omega, HD.out, by rw [HE.out, rmap] <;> simp⟩, ?_⟩
      rw [muR_at hrx]
      have h9 := HLT.out
      have h8 := HP.out
      (try simp) <;> omega
    · have x42 : xAt s p 42 = false := by simpa using x42
      by_cases x43 : xAt s p 43 = true
      · have e1 : cntI s p P = [(2, P), (4, P)] := by unfold cntI; rw [if_neg (by rw [x42]; simp), if_pos x43]
        have e2 : cntN s p = p + 1 := by unfold cntN; rw [if_neg (by rw [x42]; simp), if_pos x43]
        have hlt := xAt_lt x43
        rw [e2] at hr
        rw [e1] at hRe
        have HD := hide hr
        have HE := hide hRe
        have HLT := hide hlt
        clear e1 e2 hr hRe hlt
        have M1 := hide trivial
        go_wp2_with (first
          | (go_at_call 25; refine Calls.mono (rdg_takes (by exact HR.out) (by have := HP.out; omega) HS.out _) ?_; rintro e x ⟨rfl, hRn⟩; replace HR := hide hRn; clear hRn; simp only [x42, x43, Bool.false_eq_true, if_false, if_true] at HR ⊢)
          | (go_at_call 26; clear M1; refine Calls.mono (rdg_put (by exact HR.out) 2 (.func (.func fu) #[] lb) P (.inr ⟨by decide, by simp⟩) (by have := HL.out; have := HP.out; have := HS1.out; simp; omega)) ?_; rintro e x ⟨rfl, vn, hRn⟩; replace HR := hide hRn; clear hRn)
          | (go_at_call 26; refine Calls.mono (rdg_put (by exact HR.out) 4 (.func (.func fu) #[] lb) P (.inr ⟨by decide, by simp⟩) (by have := HL.out; have := HP.out; have := HS1.out; simp; omega)) ?_; rintro e x ⟨rfl, vn, hRn⟩; replace HR := hide hRn; clear hRn))
        try go_step3
        first | refine goJ_then ?_ | refine goJ_plain ?_ | refine goJ_block ?_
        have hrx := HR.out.rx
        refine ⟨⟨p + 1, _, its ++ [(2, P)] ++ [(4, P)], r, sl_two rfl rfl rfl rfl, HR.out.less, HLT.out, by have := HL.out; simp; omega, HD.out, by rw [HE.out, rmap] <;> simp⟩, ?_⟩
        rw [muR_at hrx]
        have h9 := HLT.out
        have h8 := HP.out
        (try simp) <;> omega
      · have x43 : xAt s p 43 = false := by simpa using x43
        by_cases x63 : xAt s p 63 = true
        · have e1 : cntI s p P = [(3, P)] := by unfold cntI; rw [if_neg (by rw [x42]; simp), if_neg (by rw [x43]; simp), if_pos x63]
          have e2 : cntN s p = p + 1 := by unfold cntN; rw [if_neg (by rw [x42]; simp), if_neg (by rw [x43]; simp), if_pos x63]
          have hlt := xAt_lt x63
          rw [e2] at hr
          rw [e1] at hRe
          have HD := hide hr
          have HE := hide hRe
          have HLT := hide hlt
          clear e1 e2 hr hRe hlt
          have M1 := hide trivial
          go_wp2_with (first
            | (go_at_call 25; refine Calls.mono (rdg_takes (by exact HR.out) (by have := HP.out; omega) HS.out _) ?_; rintro e x ⟨rfl, hRn⟩; replace HR := hide hRn; clear hRn; simp only [x42, x43, x63, Bool.false_eq_true, if_false, if_true] at HR ⊢)
            | (go_at_call 26; refine Calls.mono (rdg_put (by exact HR.out) 3 (.func (.func fu) #[] lb) P (.inr ⟨by decide, by simp⟩) (by have := HL.out; have := HP.out; have := HS1.out; simp; omega)) ?_; rintro e x ⟨rfl, vn, hRn⟩; replace HR := hide hRn; clear hRn))
          try go_step3
          first | refine goJ_then ?_ | refine goJ_plain ?_ | refine goJ_block ?_
          have hrx := HR.out.rx
          refine ⟨⟨p + 1, _, its ++ [(3, P)], r, sl_two rfl rfl rfl rfl, HR.out.less, HLT.out, by have := HL.out; simp; omega, HD.out, by rw [HE.out, rmap] <;> simp⟩, ?_⟩
          rw [muR_at hrx]
          have h9 := HLT.out
          have h8 := HP.out
          (try simp) <;> omega
        · have x63 : xAt s p 63 = false := by simpa using x63
          have e1 : cntI s p P = [(2, P)] := by unfold cntI; rw [if_neg (by rw [x42]; simp), if_neg (by rw [x43]; simp), if_neg (by rw [x63]; simp)]
          have e2 : cntN s p = p := by unfold cntN; rw [if_neg (by rw [x42]; simp), if_neg (by rw [x43]; simp), if_neg (by rw [x63]; simp)]
          have hlt : True := trivial
          rw [e2] at hr
          rw [e1] at hRe
          have HD := hide hr
          have HE := hide hRe
          have HLT := hide hlt
          clear e1 e2 hr hRe hlt
          have M1 := hide trivial
          go_wp2_with (first
            | (go_at_call 25; refine Calls.mono (rdg_takes (by exact HR.out) (by have := HP.out; omega) HS.out _) ?_; rintro e x ⟨rfl, hRn⟩; replace HR := hide hRn; clear hRn; simp only [x42, x43, x63, Bool.false_eq_true, if_false, if_true] at HR ⊢)
            | (go_at_call 26; refine Calls.mono (rdg_put (by exact HR.out) 2 (.func (.func fu) #[] lb) P (.inr ⟨by decide, by simp⟩) (by have := HL.out; have := HP.out; have := HS1.out; simp; omega)) ?_; rintro e x ⟨rfl, vn, hRn⟩; replace HR := hide hRn; clear hRn))
          try go_step3
          first | refine goJ_then ?_ | refine goJ_plain ?_ | refine goJ_block ?_
          have hrx := HR.out.rx
          refine ⟨⟨p, _, its ++ [(2, P)], r, sl_two rfl rfl rfl rfl, HR.out.less, HP.out, by have := HL.out; simp; omega, HD.out, by rw [HE.out, rmap] <;> simp⟩, ?_⟩
          rw [muR_at hrx]
          have h9 := HLT.out
          have h8 := HP.out
          (try simp) <;> omega
  · -- set
    intro x wr hJ hcnt
    obtain ⟨p, p', v, its, hSl, hRd, hp, hl, hcs⟩ := hJ
    obtain ⟨T, rfl, hT⟩ := sl_get hSl
    have h0 : T 0 = .pointer (some ⟨b, 0, none⟩) := hT (0, .pointer (some ⟨b, 0, none⟩)) (by simp)
    have h4 : T 4 = .pointer (some ⟨w0.heap.size, 0, none⟩) := hT (4, .pointer (some ⟨w0.heap.size, 0, none⟩)) (by simp)
    rw [h0, h4]
    clear h0 h4 hT hSl
    simp only at hcnt ⊢
    have HCN := hide hcnt
    have hmu : muR s b (if (2 : Nat) = 0 then 0 else 1) wr = 4 * (s.size - p) + 1 := muR_at hRd.rx
    have HMU := hide hmu
    have HR := hide hRd
    have HP := hide hp
    have HL := hide hl
    clear START HRX HRD HF HP0 hRd hp hl pn ps hcnt hmu
    rcases hcs with ⟨P, r0, h1, h2, h3⟩ | ⟨h1, h2, h3⟩
    · have HC := hide h1
      have HD := hide h2
      have HE := hide h3
      clear h1 h2 h3
      go_wp2_with (go_at_call 31; refine Calls.mono (rdg_set (by exact HR.out) HC.out) ?_; rintro e x9 ⟨fu, lb, rfl, hRn⟩; replace HR := hide hRn; clear hRn)
      refine wp_label ?_
      rename_i K9 hK9
      have hrx := HR.out.rx
      have hq3 := (HC.out.1 (by simp)).1
      have hq2 := (HC.out.1 (by simp)).2
      refine hK9 _ _ (HCN.out _ _ ⟨p', v, its, P, r0, fu, lb, sl_three rfl rfl rfl rfl rfl, HR.out, hq2, by have := HL.out; omega, HD.out, HE.out⟩ ?_)
      rw [HMU.out, muR_at hrx]
      simp
      omega
    · have HC := hide h1
      have HE := hide h3
      subst h2
      clear h1 h3
      go_wp2_with (go_at_call 31; refine Calls.mono (rdg_noset (by exact HR.out) HC.out) ?_; rintro e x9 ⟨rfl, hRn⟩; replace HR := hide hRn; clear hRn)
      rw [jumpA_ret]
      go_ret
      exact ⟨by rw [HE.out]; rfl, v, HR.out.rx, HR.out.gr, fun its' h' => by rw [HE.out] at h'; simp at h'⟩
  · -- from the beginning
    intro hst
    have HST := hide hst
    clear hst pn ps
    have c0 := HRX.out.text
    go_upto_region 4 with (fail)
    have HF2 := hide HF.out
    by_cases hpf : Lib.hasPrefix s.data.toList (⟨#[92, 105]⟩ : ByteArray).data.toList = true
    · replace HF := HF.out
      rw [if_pos hpf] at HF
      obtain ⟨rfl, rfl, h2s⟩ := HF
      have c2 := HRX.out.fold
      have z2 := HRX.out.frz 2
      have gx := GrX.of_below (X := fun j => j = b) (Below.refl _ (w0.alloc (.cells #[.int .i32 0, .bool false] 71)))
      have HGX := hide gx
      clear gx
      generalize w0.alloc (.cells #[.int .i32 0, .bool false] 71) = X at *
      go_upto_region 6 with (go_at_call 23; refine (hasPrefix_any _ _ _).mono ?_; rintro e x ⟨rfl, hx⟩; obtain rfl : X = x := hx.symm; clear hx; rw [hpf])
      have r0 : Rx (X.setCell ⟨b, 2, none⟩ (.bool true)) b s 0 true (.slice none 0 0) := heap_setCell_same X b 2 _ _ (.bool true) HRX.out
      have g0 : GrX (fun j => j = b) X (X.setCell ⟨b, 2, none⟩ (.bool true)) := GrX.of_grown (grownX_set X b 2 _) (fun j hj => .inl (by cases hj; rfl))
      have HG0 := hide g0
      have HR0 := hide r0
      clear c0 c2 z2 g0 r0
      generalize X.setCell ⟨b, 2, none⟩ (.bool true) = X1 at *
      have z1 := HR0.out.frz 1
      have c1 := HR0.out.at
      go_wp2_with (fail)
      refine wp_label ?_
      rename_i K9 hK9
      have r1 := HR0.out.set 2
      have g1 := HG0.out.trans (GrX.of_grown (grownX_set X1 b 1 (.int .i64 2)) (fun j hj => .inl (by cases hj; rfl)))
      refine hK9 _ _ (HST.out _ _ ⟨2, .slice none 0 0, [], R, sl_two rfl rfl rfl rfl, START.out _ g1 r1, HP0.out, by simp, HRD.out, by cases R <;> simp⟩)
    · replace HF := HF.out
      rw [if_neg hpf] at HF
      have hpf : Lib.hasPrefix s.data.toList (⟨#[92, 105]⟩ : ByteArray).data.toList = false := by simpa using hpf
      obtain ⟨rfl, rfl⟩ := HF
      generalize w0.alloc (.cells #[.int .i32 0, .bool false] 71) = X at *
      go_wp2_with (go_at_call 23; refine (hasPrefix_any _ _ _).mono ?_; rintro e x ⟨rfl, hx⟩; obtain rfl : X = x := hx.symm; clear hx; rw [hpf])
      refine wp_label ?_
      rename_i K9 hK9
      refine hK9 _ _ (HST.out _ _ ⟨0, .slice none 0 0, [], R, sl_two rfl rfl rfl rfl, START.out _ (GrX.of_below (Below.refl _ _)) HRX.out, HP0.out, by simp, HRD.out, by cases R <;> simp⟩)
end Go.Proofs.YtodooppapciegaaGreatDoor
namespace Go.Proofs.YtodooppapciegaaGreatDoor
open Go.RowKit Go.Shelf
set_option linter.unusedVariables false
set_option linter.unusedSimpArgs false

set_option maxRecDepth 100000 in
theorem part_sne (gf : Nat) (lb : Array Value) (w : World) : Sem.run Tryz.prog (binOp BinOp.neq 69 (.func (.func gf) #[] lb) Value.nilFunc) w = .ok (.bool true) w := rfl
theorem xscope2 {P : Program} {a : Act} {w : World} {Q : Exit → Act → World → Prop} {c R0 R1 : Code} (J : Nat → Act → World → Prop) (μ : Nat → Act → World → Nat)
    (h0 : findLabel c 0 = some (Code.skip.seq R0)) (h1 : findLabel c 1 = some (Code.skip.seq R1)) (hJ : ∀ l a w, J l a w → l = 0 ∨ l = 1)
    (p1 : ∀ a w, J 0 a w → R0.wp P (jumpA (fun l' a' w' => J l' a' w' ∧ μ l' a' w' < μ 0 a w) Q) a w)
    (p0 : ∀ a w, J 1 a w → R1.wp P (jumpA (fun l' a' w' => J l' a' w' ∧ μ l' a' w' < μ 1 a w) Q) a w)
    (first : (∀ a w, J 0 a w → R0.wp P (jumpA J Q) a w) → c.wp P (jumpA J Q) a w) : (Code.scope c).wp P Q a w := by
  refine wp_scope_all J μ (first fun a w h => Code.wp_mono (jumpA_mono fun _ _ _ k => k.1) (p1 a w h)) fun l a w h => ?_
  rcases hJ l a w h with rfl | rfl
  · exact ⟨_, h0, wp_seq (wp_skip (p1 a w h))⟩
  · exact ⟨_, h1, wp_seq (wp_skip (p0 a w h))⟩
/-- What set leaves. -/
def StV (w : World) (b : Nat) (s : ByteArray) (f : Bool) (v : Value) (r : Option (Ch → Bool)) (q : Nat) (e : Ending) (w' : World) : Prop := Rx w' b s q f v ∧ GrX (fun j => j = b) w w' ∧
    (match r with
      | none => e = .returned (.tuple #[.nilFunc, .bool false])
      | some P => ∃ u, e = .returned (.tuple #[u, .bool true]) ∧ PartO (fun _ => False) w.heap.size w' u P)
/-- What stands behind a range's dash. -/
def Up (s : ByteArray) (f oth : Bool) (c : Ch) (p : Nat) (Ps : List (Ch → Bool)) (r : Option (Ch → Bool)) (q : Nat) : Prop :=
  ((xAt s p 93 = true ∨ xAt s p 45 = true) ∧ r = none ∧ q = p) ∨ (xAt s p 93 = false ∧ xAt s p 45 = false ∧
    ((∃ q2, WrC s p .bad q2 ∧ r = none ∧ q = q2) ∨ (∃ P q2, WrC s p (.kind P) q2 ∧ r = none ∧ q = q2 - wdB (bl s) q2) ∨
     (∃ d q2, WrC s p (.one d) q2 ∧ (c.2 = false ∨ d.2 = false ∨ d.1 < c.1) ∧ r = none ∧ q = q2 - wdB (bl s) q2) ∨
     (∃ d q2, WrC s p (.one d) q2 ∧ c.2 = true ∧ d.2 = true ∧ c.1 ≤ d.1 ∧ El s f oth q2 (Ps ++ [btwP c.1 d.1]) r q)))
/-- What holds at the two labels: element, upTo. -/
def SJ (w : World) (b : Nat) (s : ByteArray) (f oth : Bool) (v : Value) (r : Option (Ch → Bool)) (q : Nat) : Nat → Act → World → Prop
  | 1, x, wr => ∃ (p : Nat) (c : Ch) (pv : Value) (Ps : List (Ch → Bool)) (us : List Value), Sn 87 x [(0, .pointer (some ⟨b, 0, none⟩)), (4, pv), (6, .pointer (some ⟨w.heap.size, 0, none⟩)), (7, .pointer (some ⟨w.heap.size + 1, 0, none⟩)), (9, .bool oth)] ∧ Stg w b s f wr p v c pv Ps us [] ∧ p ≤ s.size ∧ Ps.length + 1 ≤ p ∧ Up s f oth c p Ps r q
  | 0, x, wr => ∃ (p : Nat) (c : Ch) (pv : Value) (Ps : List (Ch → Bool)) (us : List Value), Sn 87 x [(0, .pointer (some ⟨b, 0, none⟩)), (4, pv), (6, .pointer (some ⟨w.heap.size, 0, none⟩)), (7, .pointer (some ⟨w.heap.size + 1, 0, none⟩)), (9, .bool oth)] ∧ Stg w b s f wr p v c pv Ps us [] ∧ p ≤ s.size ∧ Ps.length ≤ p ∧ El s f oth p Ps r q
  | _, _, _ => False
theorem sn5s {x : Act} {v0 v4 v6 v7 v9 : Value} (h1 : x.tmps.size = 87) (h2 : x.defers = []) (e0 : x.tmps[0]? = some v0) (e4 : x.tmps[4]? = some v4) (e6 : x.tmps[6]? = some v6) (e7 : x.tmps[7]? = some v7) (e9 : x.tmps[9]? = some v9) : Sn 87 x [(0, v0), (4, v4), (6, v6), (7, v7), (9, v9)] :=
  ((((((sn_nil h1 h2).and e9).and e7).and e6).and e4).and e0)
set_option maxRecDepth 100000 in
set_option maxHeartbeats 8000000 in
theorem xset_any (b : Nat) (s : ByteArray) (p0 : Nat) (f : Bool) (v : Value) (w : World) (h : Rx w b s p0 f v) (hp : p0 ≤ s.size) (hs : s.size ≤ 65536) (oth : Bool) (p1 : Nat)
    (ho : (xAt s p0 94 = true ∧ oth = true ∧ p1 = p0 + 1) ∨ (xAt s p0 94 = false ∧ oth = false ∧ p0 = p1)) (r : Option (Ch → Bool)) (q : Nat) (hR : (xAt s p1 93 = true ∧ r = none ∧ q = p1) ∨ (xAt s p1 93 = false ∧ El s f oth p1 [] r q)) :
    Calls Tryz.prog 31 #[.pointer (some ⟨b, 0, none⟩)] w fun e w' => StV w b s f v r q e w' := by
  have HS1 := hide hs
  have HS : Hid (s.size ≤ 140737488355328) := by show _ ≤ _; omega
  have pn := fun W => part_nil W
  have pm := fun W => part_nne W
  have ps := fun gf lb W => part_set gf lb W
  have pq := fun gf lb W => part_sne gf lb W
  obtain ⟨i0, hi, hz0, hz1, hz2⟩ := info_parts Tryz.infoPt
  obtain ⟨X, hX⟩ : ∃ X, X = (w.alloc (.cells #[.int .i32 0, .bool false] 71)).alloc (.cells #[.int .i32 0, .bool false] 71) := ⟨_, rfl⟩
  have hE0 : Stg w b s f X p0 v (0, false) (.slice none 0 0) [] [] [] := by
    have hB : Below w.heap.size w X := by rw [hX]; exact ((Below.refl _ w).alloc (Nat.le_refl _) _).alloc (by simp) _
    refine ⟨h.below hB, h.lt, GrX.of_below hB, ?_, ⟨0, false, ?_⟩, rfl, World.ownsRow_nil _ _ _ _, fun t ht => absurd ht (by simp), fun g hg => by simp [Value.ownBlock] at hg, fun t ht => absurd ht (by simp)⟩
    · rw [hX]
      exact (((Below.refl _ (w.alloc (.cells #[.int .i32 0, .bool false] 71))).alloc (Nat.le_refl _) (.cells #[.int .i32 0, .bool false] 71)).block w.heap.size (by simp)).trans (heap_alloc_new w _)
    · rw [hX]
      have k := heap_alloc_new (w.alloc (.cells #[.int .i32 0, .bool false] 71)) (.cells #[.int .i32 0, .bool false] 71)
      simpa using k
  have HE := hide hE0
  have HP := hide hp
  have HOT := hide ho
  have HRD := hide hR
  clear h hE0 hs hp ho hR
  go_enter Tryz.func31, Tryz.ntmps31
  go_wp2_with (fail)
  refine xscope2 (SJ w b s f oth v r q) (fun _ _ wr => muR s b 0 wr) rfl rfl (fun l a w h => ?_) ?_ ?_ ?_
  · match l, h with
    | 0, _ => exact .inl rfl
    | 1, _ => exact .inr rfl
  · -- element
    intro x wr hJ
    obtain ⟨p, c, pv, Ps, us, hSn, hSt, hp, hl, hr⟩ := hJ
    obtain ⟨T', rfl, hT'⟩ := sn_get hSn
    have e0 : T' 0 = .pointer (some ⟨b, 0, none⟩) := hT' (0, .pointer (some ⟨b, 0, none⟩)) (by simp)
    have e4 : T' 4 = pv := hT' (4, pv) (by simp)
    have e6 : T' 6 = .pointer (some ⟨w.heap.size, 0, none⟩) := hT' (6, .pointer (some ⟨w.heap.size, 0, none⟩)) (by simp)
    have e7 : T' 7 = .pointer (some ⟨w.heap.size + 1, 0, none⟩) := hT' (7, .pointer (some ⟨w.heap.size + 1, 0, none⟩)) (by simp)
    have e9 : T' 9 = .bool oth := hT' (9, .bool oth) (by simp)
    have hact : ((List.range 87).map T').toArray = #[T' 0, T' 1, T' 2, T' 3, T' 4, T' 5, T' 6, T' 7, T' 8, T' 9, T' 10, T' 11, T' 12, T' 13, T' 14, T' 15, T' 16, T' 17, T' 18, T' 19, T' 20, T' 21, T' 22, T' 23, T' 24, T' 25, T' 26, T' 27, T' 28, T' 29, T' 30, T' 31, T' 32, T' 33, T' 34, T' 35, T' 36, T' 37, T' 38, T' 39, T' 40, T' 41, T' 42, T' 43, T' 44, T' 45, T' 46, T' 47, T' 48, T' 49, T' 50, T' 51, T' 52, T' 53, T' 54, T' 55, T' 56, T' 57, T' 58, T' 59, T' 60, T' 61, T' 62, T' 63, T' 64, T' 65, T' 66, T' 67, T' 68, T' 69, T' 70, T' 71, T' 72, T' 73, T' 74, T' 75, T' 76, T' 77, T' 78, T' 79, T' 80, T' 81, T' 82, T' 83, T' 84, T' 85, T' 86] := rfl
    rw [hact, e0, e4, e6, e7, e9, muR_at hSt.rx]
    clear hact e0 e4 e6 e7 e9 hT' hSn HE HP HOT HRD
    have HE := hide hSt
    have HP := hide hp
    have HL := hide hl
    have hPl : Ps.length ≤ 65536 := by have := HS1.out; omega
    clear hSt hp hl
    cases hr with
    | fin _ _ h1 =>
      have x93 := h1
      have hlt := xAt_lt h1
      have HLT := hide hlt
      clear h1 hlt
      go_wp2_with (first
        | (go_at_call 25; refine Calls.mono (stg_takes (by exact HE.out) (by have := HP.out; omega) HS.out _) ?_; rintro e x ⟨rfl, hRn⟩; replace HE := hide hRn; clear hRn; simp only [x93, Bool.false_eq_true, if_false, if_true] at HE ⊢)
        | (go_at_call 52; refine Calls.mono (stg_whole (by exact HE.out) oth (by have := HL.out; have := HP.out; have := HS1.out; omega)) ?_; rintro e x9 ⟨fu, lb, rfl, hpo, hrx, hgr⟩; have HPO := hide hpo; have HRX := hide hrx; have HGR := hide hgr; clear hpo hrx hgr))
      rw [jumpA_ret]
      go_ret2
      exact ⟨HRX.out, HGR.out, _, rfl, HPO.out⟩
    | dash _ _ h1 h2 =>
      have x93 := h1
      have x45 := h2
      clear h1 h2
      go_wp2_with (first
        | (go_at_call 25; refine Calls.mono (stg_takes (by exact HE.out) (by have := HP.out; omega) HS.out _) ?_; rintro e x ⟨rfl, hRn⟩; replace HE := hide hRn; clear hRn; simp only [x93, Bool.false_eq_true, if_false, if_true] at HE ⊢)
        | (go_at_call 27; refine Calls.mono (stg_sees (by exact HE.out) (by have := HP.out; omega) HS.out _) ?_; rintro e x ⟨rfl, hRn⟩; replace HE := hide hRn; clear hRn; simp only [x45]))
      rw [jumpA_ret]
      go_ret2
      exact ⟨HE.out.rx, HE.out.gr, rfl⟩
    | bad _ _ _ h1 h2 h3 =>
      have x93 := h1
      have x45 := h2
      have HC := hide h3
      clear h1 h2 h3
      go_upto_region 12 with (first
        | (go_at_call 25; refine Calls.mono (stg_takes (by exact HE.out) (by have := HP.out; omega) HS.out _) ?_; rintro e x ⟨rfl, hRn⟩; replace HE := hide hRn; clear hRn; simp only [x93, Bool.false_eq_true, if_false, if_true] at HE ⊢)
        | (go_at_call 27; refine Calls.mono (stg_sees (by exact HE.out) (by have := HP.out; omega) HS.out _) ?_; rintro e x ⟨rfl, hRn⟩; replace HE := hide hRn; clear hRn; simp only [x45]))
      go_upto_region 13 with (go_at_call 29; refine Calls.mono (stg_bad (by exact HE.out) HC.out) ?_; rintro e x9 ⟨c0, c1, rfl, hRn⟩; replace HE := hide hRn; obtain ⟨a60, a61, a6f⟩ := chr_facts (b := b) HE.out.low; clear hRn)
      replace HE := hide (HE.out.setLow c0 c1)
      clear a60 a61 a6f
      generalize (x9.setCell ⟨w.heap.size, 0, none⟩ (.int .i32 c0)).setCell ⟨w.heap.size, 1, none⟩ (.bool c1) = y9 at *
      go_wp2_with (fail)
      rw [jumpA_ret]
      go_ret2
      exact ⟨HE.out.rx, HE.out.gr, rfl⟩
    | kind _ _ P q1 _ _ h1 h2 h3 h4 =>
      have HD := hide h4
      clear h4
      have x93 := h1
      have x45 := h2
      have HC := hide h3
      clear h1 h2 h3
      go_upto_region 12 with (first
        | (go_at_call 25; refine Calls.mono (stg_takes (by exact HE.out) (by have := HP.out; omega) HS.out _) ?_; rintro e x ⟨rfl, hRn⟩; replace HE := hide hRn; clear hRn; simp only [x93, Bool.false_eq_true, if_false, if_true] at HE ⊢)
        | (go_at_call 27; refine Calls.mono (stg_sees (by exact HE.out) (by have := HP.out; omega) HS.out _) ?_; rintro e x ⟨rfl, hRn⟩; replace HE := hide hRn; clear hRn; simp only [x45]))
      go_upto_region 13 with (go_at_call 29; refine Calls.mono (stg_kind (by exact HE.out) HC.out) ?_; rintro e x9 ⟨fu, lb, c0, c1, rfl, hRn⟩; replace HE := hide hRn; obtain ⟨a60, a61, a6f⟩ := chr_facts (b := b) HE.out.low; clear hRn)
      replace HE := hide (HE.out.setLow c0 c1)
      clear a60 a61 a6f
      generalize (x9.setCell ⟨w.heap.size, 0, none⟩ (.int .i32 c0)).setCell ⟨w.heap.size, 1, none⟩ (.bool c1) = y9 at *
      go_wp2_with (at_builtin; refine wpList_append_own_at _ rfl _ _ 102 rfl 0 69 i0 .nilFunc 1 8 Tryz.underlying102 hi hz0 hz1 hz2 rfl (by decide) pv Ps.length us rfl (HE.out.row.alloc _) ⟨y9.heap.size, 0, none⟩ 1 1 [.func (.func fu) #[] lb] rfl rfl (cell_one_newX y9 _ _) (by simp [Value.oneCell']) (by unfold maxLen; omega) (by omega) (Nat.zero_le _) ?_; intro v1 x1 ho2 hg2 hnn hat; replace HE := hide (HE.out.app (P := P) (List.mem_cons_self ..) hg2 ho2 (hat.imp id (fun e => ⟨_, e, Nat.le_refl _⟩))); clear hnn ho2 hg2 hat)
      try go_step3
      first | refine goJ_then ?_ | refine goJ_plain ?_ | refine goJ_block ?_
      have hrx := HE.out.rx
      have hq1 := HC.out.2.1
      have hq2 := HC.out.2.2.1 (by simp)
      refine ⟨⟨q1, _, v1, Ps ++ [P], _, sn5s rfl rfl rfl rfl rfl rfl rfl, HE.out, hq1, by have := HL.out; simp; omega, HD.out⟩, ?_⟩
      rw [muR_at hrx]
      have h8 := HP.out
      omega
    | one _ _ cc q1 _ _ h1 h2 h3 h4 h5 =>
      have HD := hide h5
      have xq := h4
      clear h4 h5
      have x93 := h1
      have x45 := h2
      have HC := hide h3
      clear h1 h2 h3
      go_upto_region 12 with (first
        | (go_at_call 25; refine Calls.mono (stg_takes (by exact HE.out) (by have := HP.out; omega) HS.out _) ?_; rintro e x ⟨rfl, hRn⟩; replace HE := hide hRn; clear hRn; simp only [x93, Bool.false_eq_true, if_false, if_true] at HE ⊢)
        | (go_at_call 27; refine Calls.mono (stg_sees (by exact HE.out) (by have := HP.out; omega) HS.out _) ?_; rintro e x ⟨rfl, hRn⟩; replace HE := hide hRn; clear hRn; simp only [x45]))
      obtain ⟨c0, c1⟩ := cc
      go_upto_region 13 with (go_at_call 29; refine Calls.mono (stg_single (by exact HE.out) HC.out) ?_; rintro e x9 ⟨rfl, hRn⟩; replace HE := hide hRn; obtain ⟨a60, a61, a6f⟩ := chr_facts (b := b) HE.out.low; clear hRn)
      replace HE := hide (HE.out.setLow c0 c1)
      clear a60 a61 a6f
      generalize (x9.setCell ⟨w.heap.size, 0, none⟩ (.int .i32 c0)).setCell ⟨w.heap.size, 1, none⟩ (.bool c1) = y9 at *
      have HQ := hide HC.out.2.1
      go_upto_region 17 with (go_at_call 25; refine Calls.mono (stg_takes (by exact HE.out) HQ.out HS.out _) ?_; rintro e x ⟨rfl, hRn⟩; replace HE := hide hRn; clear hRn; simp only [xq, Bool.false_eq_true, if_false, if_true] at HE ⊢)
      obtain ⟨b60, b61, b6f⟩ := chr_facts (b := b) HE.out.low
      go_wp2_with (first
        | (go_at_call 51; refine Calls.mono (stg_same (by exact HE.out) (c0, c1)) ?_; rintro e x ⟨fu, lb, rfl, hRn⟩; replace HE := hide hRn; clear hRn b60 b61 b6f)
        | (at_builtin; refine wpList_append_own_at _ rfl _ _ 102 rfl 0 69 i0 .nilFunc 1 8 Tryz.underlying102 hi hz0 hz1 hz2 rfl (by decide) pv Ps.length us rfl (HE.out.row.alloc _) ⟨x.heap.size, 0, none⟩ 1 1 [.func (.func fu) #[] lb] rfl rfl (cell_one_newX x _ _) (by simp [Value.oneCell']) (by unfold maxLen; omega) (by omega) (Nat.zero_le _) ?_; intro v1 x1 ho2 hg2 hnn hat; replace HE := hide (HE.out.app (P := fun d => decide (d = (c0, c1))) (List.mem_cons_self ..) hg2 ho2 (hat.imp id (fun e => ⟨_, e, Nat.le_refl _⟩))); clear hnn ho2 hg2 hat))
      try go_step3
      first | refine goJ_then ?_ | refine goJ_plain ?_ | refine goJ_block ?_
      have hrx := HE.out.rx
      have hq1 := HC.out.2.1
      have hq2 := HC.out.2.2.1 (by simp)
      refine ⟨⟨q1, _, v1, Ps ++ [fun d => decide (d = (c0, c1))], _, sn5s rfl rfl rfl rfl rfl rfl rfl, HE.out, hq1, by have := HL.out; simp; omega, HD.out⟩, ?_⟩
      rw [muR_at hrx]
      have h8 := HP.out
      omega
    | upNo _ _ cc q1 h1 h2 h3 h4 h5 =>
      have xq := h4
      have HU := hide h5
      clear h4 h5
      have x93 := h1
      have x45 := h2
      have HC := hide h3
      clear h1 h2 h3
      go_upto_region 12 with (first
        | (go_at_call 25; refine Calls.mono (stg_takes (by exact HE.out) (by have := HP.out; omega) HS.out _) ?_; rintro e x ⟨rfl, hRn⟩; replace HE := hide hRn; clear hRn; simp only [x93, Bool.false_eq_true, if_false, if_true] at HE ⊢)
        | (go_at_call 27; refine Calls.mono (stg_sees (by exact HE.out) (by have := HP.out; omega) HS.out _) ?_; rintro e x ⟨rfl, hRn⟩; replace HE := hide hRn; clear hRn; simp only [x45]))
      obtain ⟨c0, c1⟩ := cc
      go_upto_region 13 with (go_at_call 29; refine Calls.mono (stg_single (by exact HE.out) HC.out) ?_; rintro e x9 ⟨rfl, hRn⟩; replace HE := hide hRn; obtain ⟨a60, a61, a6f⟩ := chr_facts (b := b) HE.out.low; clear hRn)
      replace HE := hide (HE.out.setLow c0 c1)
      clear a60 a61 a6f
      generalize (x9.setCell ⟨w.heap.size, 0, none⟩ (.int .i32 c0)).setCell ⟨w.heap.size, 1, none⟩ (.bool c1) = y9 at *
      have HQ := hide HC.out.2.1
      go_wp2_with (go_at_call 25; refine Calls.mono (stg_takes (by exact HE.out) HQ.out HS.out _) ?_; rintro e x ⟨rfl, hRn⟩; replace HE := hide hRn; clear hRn; simp only [xq, Bool.false_eq_true, if_false, if_true] at HE ⊢)
      try go_step3
      first | refine goJ_then ?_ | refine goJ_plain ?_ | refine goJ_block ?_
      have hrx := HE.out.rx
      have hq2 := HC.out.2.2.1 (by simp)
      have hq3 := xAt_lt xq
      refine ⟨⟨q1 + 1, (c0, c1), pv, Ps, us, sn5s rfl rfl rfl rfl rfl rfl rfl, HE.out, by omega, by have := HL.out; omega, .inl ⟨HU.out, rfl, rfl⟩⟩, ?_⟩
      rw [muR_at hrx]
      have h8 := HP.out
      omega
    | upBad _ _ cc q1 q2 h1 h2 h3 h4 h5 h6 h7 =>
      have xq := h4
      have HU := hide (⟨h5, h6, h7⟩ : _ ∧ _ ∧ _)
      clear h4 h5 h6 h7
      have x93 := h1
      have x45 := h2
      have HC := hide h3
      clear h1 h2 h3
      go_upto_region 12 with (first
        | (go_at_call 25; refine Calls.mono (stg_takes (by exact HE.out) (by have := HP.out; omega) HS.out _) ?_; rintro e x ⟨rfl, hRn⟩; replace HE := hide hRn; clear hRn; simp only [x93, Bool.false_eq_true, if_false, if_true] at HE ⊢)
        | (go_at_call 27; refine Calls.mono (stg_sees (by exact HE.out) (by have := HP.out; omega) HS.out _) ?_; rintro e x ⟨rfl, hRn⟩; replace HE := hide hRn; clear hRn; simp only [x45]))
      obtain ⟨c0, c1⟩ := cc
      go_upto_region 13 with (go_at_call 29; refine Calls.mono (stg_single (by exact HE.out) HC.out) ?_; rintro e x9 ⟨rfl, hRn⟩; replace HE := hide hRn; obtain ⟨a60, a61, a6f⟩ := chr_facts (b := b) HE.out.low; clear hRn)
      replace HE := hide (HE.out.setLow c0 c1)
      clear a60 a61 a6f
      generalize (x9.setCell ⟨w.heap.size, 0, none⟩ (.int .i32 c0)).setCell ⟨w.heap.size, 1, none⟩ (.bool c1) = y9 at *
      have HQ := hide HC.out.2.1
      go_wp2_with (go_at_call 25; refine Calls.mono (stg_takes (by exact HE.out) HQ.out HS.out _) ?_; rintro e x ⟨rfl, hRn⟩; replace HE := hide hRn; clear hRn; simp only [xq, Bool.false_eq_true, if_false, if_true] at HE ⊢)
      try go_step3
      first | refine goJ_then ?_ | refine goJ_plain ?_ | refine goJ_block ?_
      have hrx := HE.out.rx
      have hq2 := HC.out.2.2.1 (by simp)
      have hq3 := xAt_lt xq
      refine ⟨⟨q1 + 1, (c0, c1), pv, Ps, us, sn5s rfl rfl rfl rfl rfl rfl rfl, HE.out, by omega, by have := HL.out; omega, .inr ⟨HU.out.1, HU.out.2.1, .inl ⟨_, HU.out.2.2, rfl, rfl⟩⟩⟩, ?_⟩
      rw [muR_at hrx]
      have h8 := HP.out
      omega
    | upKind _ _ cc q1 P q2 h1 h2 h3 h4 h5 h6 h7 =>
      have xq := h4
      have HU := hide (⟨h5, h6, h7⟩ : _ ∧ _ ∧ _)
      clear h4 h5 h6 h7
      have x93 := h1
      have x45 := h2
      have HC := hide h3
      clear h1 h2 h3
      go_upto_region 12 with (first
        | (go_at_call 25; refine Calls.mono (stg_takes (by exact HE.out) (by have := HP.out; omega) HS.out _) ?_; rintro e x ⟨rfl, hRn⟩; replace HE := hide hRn; clear hRn; simp only [x93, Bool.false_eq_true, if_false, if_true] at HE ⊢)
        | (go_at_call 27; refine Calls.mono (stg_sees (by exact HE.out) (by have := HP.out; omega) HS.out _) ?_; rintro e x ⟨rfl, hRn⟩; replace HE := hide hRn; clear hRn; simp only [x45]))
      obtain ⟨c0, c1⟩ := cc
      go_upto_region 13 with (go_at_call 29; refine Calls.mono (stg_single (by exact HE.out) HC.out) ?_; rintro e x9 ⟨rfl, hRn⟩; replace HE := hide hRn; obtain ⟨a60, a61, a6f⟩ := chr_facts (b := b) HE.out.low; clear hRn)
      replace HE := hide (HE.out.setLow c0 c1)
      clear a60 a61 a6f
      generalize (x9.setCell ⟨w.heap.size, 0, none⟩ (.int .i32 c0)).setCell ⟨w.heap.size, 1, none⟩ (.bool c1) = y9 at *
      have HQ := hide HC.out.2.1
      go_wp2_with (go_at_call 25; refine Calls.mono (stg_takes (by exact HE.out) HQ.out HS.out _) ?_; rintro e x ⟨rfl, hRn⟩; replace HE := hide hRn; clear hRn; simp only [xq, Bool.false_eq_true, if_false, if_true] at HE ⊢)
      try go_step3
      first | refine goJ_then ?_ | refine goJ_plain ?_ | refine goJ_block ?_
      have hrx := HE.out.rx
      have hq2 := HC.out.2.2.1 (by simp)
      have hq3 := xAt_lt xq
      refine ⟨⟨q1 + 1, (c0, c1), pv, Ps, us, sn5s rfl rfl rfl rfl rfl rfl rfl, HE.out, by omega, by have := HL.out; omega, .inr ⟨HU.out.1, HU.out.2.1, .inr (.inl ⟨_, _, HU.out.2.2, rfl, rfl⟩)⟩⟩, ?_⟩
      rw [muR_at hrx]
      have h8 := HP.out
      omega
    | upRev _ _ cc q1 d q2 h1 h2 h3 h4 h5 h6 h7 h8 =>
      have xq := h4
      have HU := hide (⟨h5, h6, h7, h8⟩ : _ ∧ _ ∧ _ ∧ _)
      clear h4 h5 h6 h7 h8
      have x93 := h1
      have x45 := h2
      have HC := hide h3
      clear h1 h2 h3
      go_upto_region 12 with (first
        | (go_at_call 25; refine Calls.mono (stg_takes (by exact HE.out) (by have := HP.out; omega) HS.out _) ?_; rintro e x ⟨rfl, hRn⟩; replace HE := hide hRn; clear hRn; simp only [x93, Bool.false_eq_true, if_false, if_true] at HE ⊢)
        | (go_at_call 27; refine Calls.mono (stg_sees (by exact HE.out) (by have := HP.out; omega) HS.out _) ?_; rintro e x ⟨rfl, hRn⟩; replace HE := hide hRn; clear hRn; simp only [x45]))
      obtain ⟨c0, c1⟩ := cc
      go_upto_region 13 with (go_at_call 29; refine Calls.mono (stg_single (by exact HE.out) HC.out) ?_; rintro e x9 ⟨rfl, hRn⟩; replace HE := hide hRn; obtain ⟨a60, a61, a6f⟩ := chr_facts (b := b) HE.out.low; clear hRn)
      replace HE := hide (HE.out.setLow c0 c1)
      clear a60 a61 a6f
      generalize (x9.setCell ⟨w.heap.size, 0, none⟩ (.int .i32 c0)).setCell ⟨w.heap.size, 1, none⟩ (.bool c1) = y9 at *
      have HQ := hide HC.out.2.1
      go_wp2_with (go_at_call 25; refine Calls.mono (stg_takes (by exact HE.out) HQ.out HS.out _) ?_; rintro e x ⟨rfl, hRn⟩; replace HE := hide hRn; clear hRn; simp only [xq, Bool.false_eq_true, if_false, if_true] at HE ⊢)
      try go_step3
      first | refine goJ_then ?_ | refine goJ_plain ?_ | refine goJ_block ?_
      have hrx := HE.out.rx
      have hq2 := HC.out.2.2.1 (by simp)
      have hq3 := xAt_lt xq
      refine ⟨⟨q1 + 1, (c0, c1), pv, Ps, us, sn5s rfl rfl rfl rfl rfl rfl rfl, HE.out, by omega, by have := HL.out; omega, .inr ⟨HU.out.1, HU.out.2.1, .inr (.inr (.inl ⟨_, _, HU.out.2.2.1, HU.out.2.2.2, rfl, rfl⟩))⟩⟩, ?_⟩
      rw [muR_at hrx]
      have h8 := HP.out
      omega
    | upTo _ _ cc q1 d q2 _ _ h1 h2 h3 h4 h5 h6 h7 h8 h9 h10 h11 =>
      have xq := h4
      have HU := hide (⟨h5, h6, h7, h8, h9, h10, h11⟩ : _ ∧ _ ∧ _ ∧ _ ∧ _ ∧ _ ∧ _)
      clear h4 h5 h6 h7 h8 h9 h10 h11
      have x93 := h1
      have x45 := h2
      have HC := hide h3
      clear h1 h2 h3
      go_upto_region 12 with (first
        | (go_at_call 25; refine Calls.mono (stg_takes (by exact HE.out) (by have := HP.out; omega) HS.out _) ?_; rintro e x ⟨rfl, hRn⟩; replace HE := hide hRn; clear hRn; simp only [x93, Bool.false_eq_true, if_false, if_true] at HE ⊢)
        | (go_at_call 27; refine Calls.mono (stg_sees (by exact HE.out) (by have := HP.out; omega) HS.out _) ?_; rintro e x ⟨rfl, hRn⟩; replace HE := hide hRn; clear hRn; simp only [x45]))
      obtain ⟨c0, c1⟩ := cc
      go_upto_region 13 with (go_at_call 29; refine Calls.mono (stg_single (by exact HE.out) HC.out) ?_; rintro e x9 ⟨rfl, hRn⟩; replace HE := hide hRn; obtain ⟨a60, a61, a6f⟩ := chr_facts (b := b) HE.out.low; clear hRn)
      replace HE := hide (HE.out.setLow c0 c1)
      clear a60 a61 a6f
      generalize (x9.setCell ⟨w.heap.size, 0, none⟩ (.int .i32 c0)).setCell ⟨w.heap.size, 1, none⟩ (.bool c1) = y9 at *
      have HQ := hide HC.out.2.1
      go_wp2_with (go_at_call 25; refine Calls.mono (stg_takes (by exact HE.out) HQ.out HS.out _) ?_; rintro e x ⟨rfl, hRn⟩; replace HE := hide hRn; clear hRn; simp only [xq, Bool.false_eq_true, if_false, if_true] at HE ⊢)
      try go_step3
      first | refine goJ_then ?_ | refine goJ_plain ?_ | refine goJ_block ?_
      have hrx := HE.out.rx
      have hq2 := HC.out.2.2.1 (by simp)
      have hq3 := xAt_lt xq
      refine ⟨⟨q1 + 1, (c0, c1), pv, Ps, us, sn5s rfl rfl rfl rfl rfl rfl rfl, HE.out, by omega, by have := HL.out; omega, .inr ⟨HU.out.1, HU.out.2.1, .inr (.inr (.inr ⟨_, _, HU.out.2.2.1, HU.out.2.2.2.1, HU.out.2.2.2.2.1, HU.out.2.2.2.2.2.1, HU.out.2.2.2.2.2.2⟩))⟩⟩, ?_⟩
      rw [muR_at hrx]
      have h8 := HP.out
      omega
  · -- upTo
    intro x wr hJ
    obtain ⟨p, c, pv, Ps, us, hSn, hSt, hp, hl, hr⟩ := hJ
    obtain ⟨T', rfl, hT'⟩ := sn_get hSn
    have e0 : T' 0 = .pointer (some ⟨b, 0, none⟩) := hT' (0, .pointer (some ⟨b, 0, none⟩)) (by simp)
    have e4 : T' 4 = pv := hT' (4, pv) (by simp)
    have e6 : T' 6 = .pointer (some ⟨w.heap.size, 0, none⟩) := hT' (6, .pointer (some ⟨w.heap.size, 0, none⟩)) (by simp)
    have e7 : T' 7 = .pointer (some ⟨w.heap.size + 1, 0, none⟩) := hT' (7, .pointer (some ⟨w.heap.size + 1, 0, none⟩)) (by simp)
    have e9 : T' 9 = .bool oth := hT' (9, .bool oth) (by simp)
    have hact : ((List.range 87).map T').toArray = #[T' 0, T' 1, T' 2, T' 3, T' 4, T' 5, T' 6, T' 7, T' 8, T' 9, T' 10, T' 11, T' 12, T' 13, T' 14, T' 15, T' 16, T' 17, T' 18, T' 19, T' 20, T' 21, T' 22, T' 23, T' 24, T' 25, T' 26, T' 27, T' 28, T' 29, T' 30, T' 31, T' 32, T' 33, T' 34, T' 35, T' 36, T' 37, T' 38, T' 39, T' 40, T' 41, T' 42, T' 43, T' 44, T' 45, T' 46, T' 47, T' 48, T' 49, T' 50, T' 51, T' 52, T' 53, T' 54, T' 55, T' 56, T' 57, T' 58, T' 59, T' 60, T' 61, T' 62, T' 63, T' 64, T' 65, T' 66, T' 67, T' 68, T' 69, T' 70, T' 71, T' 72, T' 73, T' 74, T' 75, T' 76, T' 77, T' 78, T' 79, T' 80, T' 81, T' 82, T' 83, T' 84, T' 85, T' 86] := rfl
    rw [hact, e0, e4, e6, e7, e9, muR_at hSt.rx]
    clear hact e0 e4 e6 e7 e9 hT' hSn HE HP HOT HRD
    have HE := hide hSt
    have HP := hide hp
    have HL := hide hl
    have hPl : Ps.length ≤ 65536 := by have := HS1.out; omega
    clear hSt hp hl
    rcases hr with ⟨h1, rfl, rfl⟩ | ⟨x93, x45, hr⟩
    · rcases Bool.eq_false_or_eq_true (xAt s q 93) with x93 | x93
      · clear h1
        go_wp2_with (go_at_call 27; refine Calls.mono (stg_sees (by exact HE.out) (by have := HP.out; omega) HS.out _) ?_; rintro e x ⟨rfl, hRn⟩; replace HE := hide hRn; clear hRn; simp only [x93])
        rw [jumpA_ret]
        go_ret2
        exact ⟨HE.out.rx, HE.out.gr, rfl⟩
      · have x45 : xAt s q 45 = true := h1.resolve_left (by rw [x93]; simp)
        clear h1
        go_wp2_with (go_at_call 27; refine Calls.mono (stg_sees (by exact HE.out) (by have := HP.out; omega) HS.out _) ?_; rintro e x ⟨rfl, hRn⟩; replace HE := hide hRn; clear hRn; simp only [x93, x45])
        rw [jumpA_ret]
        go_ret2
        exact ⟨HE.out.rx, HE.out.gr, rfl⟩
    rcases hr with ⟨q2, h3, rfl, rfl⟩ | ⟨P, q2, h3, rfl, rfl⟩ | ⟨d, q2, h3, hx, rfl, rfl⟩ | ⟨d, q2, h3, hc2, hd2, hcd, hD⟩
    · have HC := hide h3
      clear h3
      go_upto_region 21 with (go_at_call 27; refine Calls.mono (stg_sees (by exact HE.out) (by have := HP.out; omega) HS.out _) ?_; rintro e x ⟨rfl, hRn⟩; replace HE := hide hRn; clear hRn; simp only [x93, x45])
      go_upto_region 22 with (go_at_call 29; refine Calls.mono (stg_bad (by exact HE.out) HC.out) ?_; rintro e x9 ⟨c0, c1, rfl, hRn⟩; replace HE := hide hRn; obtain ⟨h0', h1', hh'⟩ := HE.out.high; obtain ⟨a60, a61, a6f⟩ := chr_facts (b := b) hh'; clear hh'; clear hRn)
      obtain ⟨hse, hst9⟩ := HE.out.setHigh c0 c1
      replace HE := hide hse
      clear a60 a61 a6f hse
      generalize (x9.setCell ⟨w.heap.size + 1, 0, none⟩ (.int .i32 c0)).setCell ⟨w.heap.size + 1, 1, none⟩ (.bool c1) = y9 at *
      go_wp2_with (fail)
      rw [jumpA_ret]
      go_ret2
      exact ⟨HE.out.rx, HE.out.gr, rfl⟩
    · have HC := hide h3
      clear h3
      go_upto_region 21 with (go_at_call 27; refine Calls.mono (stg_sees (by exact HE.out) (by have := HP.out; omega) HS.out _) ?_; rintro e x ⟨rfl, hRn⟩; replace HE := hide hRn; clear hRn; simp only [x93, x45])
      go_upto_region 22 with (go_at_call 29; refine Calls.mono (stg_kind (by exact HE.out) HC.out) ?_; rintro e x9 ⟨fu, lb, c0, c1, rfl, hRn⟩; replace HE := hide hRn; obtain ⟨h0', h1', hh'⟩ := HE.out.high; obtain ⟨a60, a61, a6f⟩ := chr_facts (b := b) hh'; clear hh'; clear hRn)
      obtain ⟨hse, hst9⟩ := HE.out.setHigh c0 c1
      replace HE := hide hse
      clear a60 a61 a6f hse
      generalize (x9.setCell ⟨w.heap.size + 1, 0, none⟩ (.int .i32 c0)).setCell ⟨w.heap.size + 1, 1, none⟩ (.bool c1) = y9 at *
      have HQ := hide HC.out.2.1
      go_wp2_with (go_at_call 53; refine Calls.mono (stg_back (by exact HE.out) HQ.out HS.out) ?_; rintro e x ⟨rfl, hRn⟩; replace HE := hide hRn; clear hRn)
      rw [jumpA_ret]
      go_ret2
      exact ⟨HE.out.rx, HE.out.gr, rfl⟩
    · have HC := hide h3
      clear h3
      obtain ⟨d0, d1⟩ := d
      obtain ⟨l0, l1⟩ := c
      simp only at hx
      go_upto_region 21 with (go_at_call 27; refine Calls.mono (stg_sees (by exact HE.out) (by have := HP.out; omega) HS.out _) ?_; rintro e x ⟨rfl, hRn⟩; replace HE := hide hRn; clear hRn; simp only [x93, x45])
      go_upto_region 22 with (go_at_call 29; refine Calls.mono (stg_single (by exact HE.out) HC.out) ?_; rintro e x9 ⟨rfl, hRn⟩; replace HE := hide hRn; obtain ⟨h0', h1', hh'⟩ := HE.out.high; obtain ⟨a60, a61, a6f⟩ := chr_facts (b := b) hh'; clear hh'; clear hRn)
      obtain ⟨hse, hst9⟩ := HE.out.setHigh d0 d1
      replace HE := hide hse
      clear a60 a61 a6f hse
      generalize (x9.setCell ⟨w.heap.size + 1, 0, none⟩ (.int .i32 d0)).setCell ⟨w.heap.size + 1, 1, none⟩ (.bool d1) = y9 at *
      have HQ := hide HC.out.2.1
      obtain ⟨b60, b61, b6f⟩ := chr_facts (b := b) HE.out.low
      obtain ⟨b70, b71, b7f⟩ := chr_facts (b := b) hst9
      clear hst9
      cases l1 with
      | false =>
        clear hx
        go_wp2_with (go_at_call 53; refine Calls.mono (stg_back (by exact HE.out) HQ.out HS.out) ?_; rintro e x ⟨rfl, hRn⟩; replace HE := hide hRn; clear hRn)
        rw [jumpA_ret]
        go_ret2
        exact ⟨HE.out.rx, HE.out.gr, rfl⟩
      | true =>
        cases d1 with
        | false =>
          clear hx
          go_wp2_with (go_at_call 53; refine Calls.mono (stg_back (by exact HE.out) HQ.out HS.out) ?_; rintro e x ⟨rfl, hRn⟩; replace HE := hide hRn; clear hRn)
          rw [jumpA_ret]
          go_ret2
          exact ⟨HE.out.rx, HE.out.gr, rfl⟩
        | true =>
          have hlt : d0 < l0 := by rcases hx with h | h | h <;> first | exact h | (simp at h)
          clear hx
          go_wp2_with (go_at_call 53; refine Calls.mono (stg_back (by exact HE.out) HQ.out HS.out) ?_; rintro e x ⟨rfl, hRn⟩; replace HE := hide hRn; clear hRn)
          rw [jumpA_ret]
          go_ret2
          exact ⟨HE.out.rx, HE.out.gr, rfl⟩
    · have HC := hide h3
      have HD := hide hD
      clear h3 hD
      obtain ⟨d0, d1⟩ := d
      obtain ⟨l0, l1⟩ := c
      simp only at hc2 hd2 hcd HD
      subst hc2 hd2
      go_upto_region 21 with (go_at_call 27; refine Calls.mono (stg_sees (by exact HE.out) (by have := HP.out; omega) HS.out _) ?_; rintro e x ⟨rfl, hRn⟩; replace HE := hide hRn; clear hRn; simp only [x93, x45])
      go_upto_region 22 with (go_at_call 29; refine Calls.mono (stg_single (by exact HE.out) HC.out) ?_; rintro e x9 ⟨rfl, hRn⟩; replace HE := hide hRn; obtain ⟨h0', h1', hh'⟩ := HE.out.high; obtain ⟨a60, a61, a6f⟩ := chr_facts (b := b) hh'; clear hh'; clear hRn)
      obtain ⟨hse, hst9⟩ := HE.out.setHigh d0 true
      replace HE := hide hse
      clear a60 a61 a6f hse
      generalize (x9.setCell ⟨w.heap.size + 1, 0, none⟩ (.int .i32 d0)).setCell ⟨w.heap.size + 1, 1, none⟩ (.bool true) = y9 at *
      obtain ⟨b60, b61, b6f⟩ := chr_facts (b := b) HE.out.low
      obtain ⟨b70, b71, b7f⟩ := chr_facts (b := b) hst9
      clear hst9
      have hnlt : ¬ d0 < l0 := by omega
      go_wp2_with (first
        | (go_at_call 54; refine Calls.mono (stg_btw (by exact HE.out) l0 d0) ?_; rintro e x ⟨fu, lb, rfl, hRn⟩; replace HE := hide hRn; clear hRn b60 b61 b6f b70 b71 b7f)
        | (at_builtin; refine wpList_append_own_at _ rfl _ _ 102 rfl 0 69 i0 .nilFunc 1 8 Tryz.underlying102 hi hz0 hz1 hz2 rfl (by decide) pv Ps.length us rfl (HE.out.row.alloc _) ⟨x.heap.size, 0, none⟩ 1 1 [.func (.func fu) #[] lb] rfl rfl (cell_one_newX x _ _) (by simp [Value.oneCell']) (by unfold maxLen; omega) (by omega) (Nat.zero_le _) ?_; intro v1 x1 ho2 hg2 hnn hat; replace HE := hide (HE.out.app (P := btwP l0 d0) (List.mem_cons_self ..) hg2 ho2 (hat.imp id (fun e => ⟨_, e, Nat.le_refl _⟩))); clear hnn ho2 hg2 hat))
      try go_step3
      first | refine goJ_then ?_ | refine goJ_plain ?_ | refine goJ_block ?_
      have hrx := HE.out.rx
      have hq1 := HC.out.2.1
      have hq2 := HC.out.2.2.1 (by simp)
      refine ⟨⟨q2, _, v1, Ps ++ [btwP l0 d0], _, sn5s rfl rfl rfl rfl rfl rfl rfl, HE.out, hq1, by have := HL.out; simp; omega, HD.out⟩, ?_⟩
      rw [muR_at hrx]
      have h8 := HP.out
      omega
  · -- from the beginning
    intro hst
    have HST := hide hst
    clear hst
    go_upto_region 5 with (fail)
    rw [← hX]
    clear hX
    rcases HOT.out with ⟨x94, rfl, rfl⟩ | ⟨x94, rfl, rfl⟩
    all_goals (
      have hlt := @xAt_lt s p0 94
      rcases HRD.out with ⟨x93, rfl, rfl⟩ | ⟨x93, hEl⟩
      · clear HOT HRD
        go_wp2_with (first
          | (go_at_call 25; refine Calls.mono (stg_takes (by exact HE.out) (by have := HP.out; omega) HS.out _) ?_; rintro e x ⟨rfl, hRn⟩; replace HE := hide hRn; clear hRn; simp only [x94, Bool.false_eq_true, if_false, if_true] at HE ⊢)
          | (go_at_call 27; refine Calls.mono (stg_sees (by exact HE.out) (by have := HP.out; first | omega | exact hlt x94) HS.out _) ?_; rintro e x ⟨rfl, hRn⟩; replace HE := hide hRn; clear hRn; simp only [x93]))
        rw [jumpA_ret]
        go_ret2
        exact ⟨HE.out.rx, HE.out.gr, rfl⟩
      · have HEL := hide hEl
        clear hEl HOT HRD
        go_wp2_with (first
          | (go_at_call 25; refine Calls.mono (stg_takes (by exact HE.out) (by have := HP.out; omega) HS.out _) ?_; rintro e x ⟨rfl, hRn⟩; replace HE := hide hRn; clear hRn; simp only [x94, Bool.false_eq_true, if_false, if_true] at HE ⊢)
          | (go_at_call 27; refine Calls.mono (stg_sees (by exact HE.out) (by have := HP.out; first | omega | exact hlt x94) HS.out _) ?_; rintro e x ⟨rfl, hRn⟩; replace HE := hide hRn; clear hRn; simp only [x93]))
        refine wp_label ?_
        rename_i K9 hK9
        refine hK9 _ _ (HST.out _ _ ⟨_, _, _, [], [], sn5s rfl rfl rfl rfl rfl rfl rfl, HE.out, by have := HP.out; first | omega | exact hlt x94, Nat.zero_le _, HEL.out⟩))
end Go.Proofs.YtodooppapciegaaGreatDoor
namespace Go.Proofs.YtodooppapciegaaGreatDoor
open Go.RowKit Go.Shelf
set_option linter.unusedVariables false
set_option linter.unusedSimpArgs false

def itsW : List Kd := [(2, setP false false [btwP 97 99]), (4, setP false false [btwP 97 99]), (2, oneP false (46, true))]
set_option maxRecDepth 100000 in
set_option maxHeartbeats 4000000 in
theorem xcompile_works (w : World) :
    Calls Tryz.prog 4 #[.string sW] w fun e w' => ∃ pb D, e = .returned (.tuple #[.pointer (some ⟨pb, 0, none⟩), .nilIface]) ∧ PatL D itsW sW w' pb ∧ Below w.heap.size w w' := by
  have hB : Below w.heap.size w (w.alloc (.cells #[.string sW, .int .i64 0, .bool false, .slice none 0 0] 48)) := (Below.refl _ w).alloc (Nat.le_refl _) _
  have hr : Rx (w.alloc (.cells #[.string sW, .int .i64 0, .bool false, .slice none 0 0] 48)) w.heap.size sW 0 false (.slice none 0 0) := heap_alloc_new w _
  have kr := xread_works w.heap.size _ hr
  have KR := hide kr
  have HB := hide hB
  have hs8 : ((sW.size : Nat) : Int) = 8 := rfl
  clear hr kr hB
  go_enter Tryz.func4, Tryz.ntmps4
  go_upto_region 4 with (fail)
  generalize w.alloc (.cells #[.string sW, .int .i64 0, .bool false, .slice none 0 0] 48) = X at *
  go_wp2_with (go_at_call 13; refine (KR.out).mono ?_; rintro e x ⟨rfl, v, hR, hI, hG⟩; have HR := hide hR; have HI := hide hI; have HG := hide hG; clear hR hI hG KR)
  obtain ⟨va, vq, rfl⟩ := HI.out.shape
  have c3 := HR.out.items
  have mk : ∀ W : World, Below x.heap.size x W → (Below x.heap.size x W ∧ W.cell? ⟨w.heap.size, 3, none⟩ = some (.slice va 3 vq)) := fun W hW => ⟨hW, (HR.out.below hW).items⟩
  have MK := hide mk
  have kc := fun W => clone_any sW W (by rw [show sW.size = 8 from rfl]; decide)
  have KC := hide kc
  clear mk kc c3
  refine wp_region_held_drew (S := fun W => Below x.heap.size x W ∧ W.cell? ⟨w.heap.size, 3, none⟩ = some (.slice va 3 vq)) (by kernel_rfl) (MK.out _ (Below.refl _ x).drew) (fun hS => ?_)
  refine wpAnyH_take (i := 0) (v := (.string sW)) rfl (by kernel_rfl) (by kernel_rfl) (by kernel_rfl) (fun _ _ _ h => h) (Or.inl ⟨by kernel_rfl, fun w' hw => by (obtain ⟨_, z0⟩ := hw; go_simp)⟩) hS ?_
  refine wpAnyH_take (i := 2) (v := (.pointer (some ⟨w.heap.size, 3, none⟩))) rfl (by kernel_rfl) (by kernel_rfl) (by kernel_rfl) (fun _ _ _ h => h) (Or.inl ⟨by kernel_rfl, fun w' hw => by (obtain ⟨_, z0⟩ := hw; go_simp)⟩) hS ?_
  refine wpAnyH_take (i := 3) (v := (.slice va 3 vq)) rfl (by kernel_rfl) (by kernel_rfl) (by kernel_rfl) (fun _ _ _ h => h) (Or.inl ⟨by kernel_rfl, fun w' hw => by (obtain ⟨_, z0⟩ := hw; go_simp)⟩) hS ?_
  refine wpAnyH_ready (rs := [1]) (by kernel_rfl) (by simp) ?_
  refine AllReadyH.cons rfl (fun K hK => ?_) AllReadyH.nil
  rw [if_pos (by kernel_rfl)]
  go_simp
  go_wp2_with (go_at_call 14; refine (KC.out _).mono ?_; rintro e z ⟨rfl, hbz⟩; have HZ := hide (bseq (Below.refl _ x).drew hbz : Below x.heap.size x z); clear hbz)
  refine hK.out _ _ (MK.out _ HZ.out) (fun hS2 => ?_)
  clear hK K
  refine wpAnyH_take (i := 4) (v := (.agg #[.string sW, .slice va 3 vq, .bool true])) rfl (by kernel_rfl) (by kernel_rfl) (by kernel_rfl) (fun _ _ _ h => h) (Or.inl ⟨by kernel_rfl, fun w' hw => by (obtain ⟨_, z0⟩ := hw; go_simp)⟩) hS2 ?_
  refine wpAnyH_ready (rs := [5]) (by kernel_rfl) (by simp) ?_
  refine AllReadyH.cons rfl (fun K hK => ?_) AllReadyH.nil
  rw [if_pos (by kernel_rfl)]
  go_simp
  refine hK.out _ _ (MK.out _ (HZ.out.alloc HZ.out.size _)) (fun hS3 => ?_)
  clear hK K
  refine wpAnyH_take (i := 6) (v := (.pointer (some ⟨z.heap.size, 0, none⟩))) rfl (by kernel_rfl) (by kernel_rfl) (by kernel_rfl) (fun _ _ _ h => h) (Or.inl ⟨by kernel_rfl, fun w' hw => by (obtain ⟨_, z0⟩ := hw; go_simp)⟩) hS3 ?_
  refine wpAnyH_take (i := 7) (v := .nilIface) rfl (by kernel_rfl) (by kernel_rfl) (by kernel_rfl) (fun _ _ _ h => h) (Or.inl ⟨by kernel_rfl, fun w' hw => by (obtain ⟨_, z0⟩ := hw; go_simp)⟩) hS3 ?_
  refine wpAnyH_done (by kernel_rfl) ?_ _
  simp only [Act.put, List.getElem_toArray, List.getElem_cons_zero, List.getElem_cons_succ, List.setIfInBounds_toArray, List.set_cons_zero, List.set_cons_succ]
  go_wp2_with (fail)
  go_ret2
  have hbx : Below w.heap.size w x := HB.out.trans ⟨HG.out.1, HG.out.2.1, HG.out.2.2.1, HG.out.2.2.2.1, fun k hk => HG.out.2.2.2.2 k (Nat.lt_of_lt_of_le hk HB.out.size) (Nat.ne_of_lt hk)⟩
  have hza : Below x.heap.size x (z.alloc (.cells #[.string sW, .slice va 3 vq, .bool true] 51)) := HZ.out.alloc HZ.out.size _
  exact ⟨z.heap.size, _, rfl, ⟨_, heap_alloc_new z _, HI.out.keep (.of_below hza HI.out.1)⟩, hbx.trans (hza.mono hbx.size)⟩
end Go.Proofs.YtodooppapciegaaGreatDoor
namespace Go.Proofs.YtodooppapciegaaGreatDoor
open Go.RowKit Go.Shelf
set_option linter.unusedVariables false
set_option linter.unusedSimpArgs false

theorem works_m : matchV itsW (bl ⟨#[120, 97, 98, 46, 99]⟩) 1 = (4, true) := by decide +kernel
theorem works_f : findV itsW (bl ⟨#[255, 97, 98, 46, 99]⟩) 0 = (1, 4, true) := by decide +kernel
theorem works_n : findV itsW (bl ⟨#[97, 98]⟩) 0 = (0, 0, false) := by decide +kernel
theorem Tryz.noHeldPc : Tryz.prog.stoodInHeld 36 = false := by kernel_rfl
theorem Tryz.fieldsPc : Tryz.prog.underlying 36 = some (.struct (Tryz.prog.fieldsOf 36)) := by kernel_rfl
theorem piece_eq (w : World) : (Op.equalIn 10000 36 (.agg #[.int .i64 1, .int .i64 4]) (.agg #[.int .i64 1, .int .i64 4])).run Tryz.prog w = .ok true w := by
  rw [run_equalIn_agg w 9999 36 _ _ Tryz.fieldsPc Tryz.noHeldPc]
  have u3 := Tryz.underlying3
  have a3 := Tryz.isAgg3
  unfold Program.fieldsOf
  rw [Tryz.underlying36]
  simp [Op.eqFields, part, u3, a3, go_sem]
theorem Tryz.noGuardPc : Tryz.prog.eqGuardType Tryz.prog.depth 36 = false := by kernel_rfl
set_option maxRecDepth 100000 in
set_option maxHeartbeats 4000000 in
theorem xworks_any (w : World) : Calls Tryz.prog 6 #[] w fun e w' => e = .returned (.bool true) ∧ Below w.heap.size w w' := by
  have kc := xcompile_works w
  have km := fun W D pb (h : PatL D itsW sW W pb) => match_any D itsW sW ⟨#[120, 97, 98, 46, 99]⟩ W pb h (by decide) (by decide) 1 (by decide)
  have k1 := fun W D pb (h : PatL D itsW sW W pb) => find_any D itsW sW ⟨#[255, 97, 98, 46, 99]⟩ W pb h (by decide) (by decide) 0 (by decide)
  have k2 := fun W D pb (h : PatL D itsW sW W pb) => find_any D itsW sW ⟨#[97, 98]⟩ W pb h (by decide) (by decide) 0 (by decide)
  rw [works_m] at km
  rw [works_f] at k1
  rw [works_n] at k2
  simp only at km k1 k2
  have pe := fun W => piece_eq W
  have pg := Tryz.noGuardPc
  have KC := hide kc
  have KM := hide km
  have K1 := hide k1
  have K2 := hide k2
  clear kc km k1 k2
  go_enter Tryz.func6, Tryz.ntmps6
  go_wp2_with (first
    | (go_at_call 4; refine Calls.mono (KC.out) ?_; rintro e x1 ⟨pb, D, rfl, hp, hb⟩; have HP := hide hp; have HB := hide hb; clear hp hb KC)
    | (go_at_call 9; refine (KM.out _ _ _ HP.out).mono ?_; rintro e x2 ⟨rfl, hb⟩; replace HP := hide (HP.out.below hb); replace HB := hide (bseq HB.out hb); clear hb KM)
    | (go_at_call 11; refine (K1.out _ _ _ HP.out).mono ?_; rintro e x3 ⟨rfl, hb⟩; have h8 := heap_alloc_new x3 (.cells #[.int .i64 1, .int .i64 4] 36); have H8 := hide h8; have hb8 : Below x3.heap.size x3 (x3.alloc (.cells #[.int .i64 1, .int .i64 4] 36)) := (Below.refl _ _).alloc (Nat.le_refl _) _; replace HP := hide (HP.out.below (bseq hb hb8)); replace HB := hide (bseq HB.out (bseq hb hb8)); clear hb hb8 h8 K1)
    | (go_at_call 11; refine (K2.out _ _ _ HP.out).mono ?_; rintro e x4 ⟨rfl, hb⟩; have hq := (hb.block _ (Array.getElem?_eq_some_iff.1 H8.out).1).trans H8.out; have q0 := cel2 hq 0 _ rfl; have q1 := cel2 hq 1 _ rfl; have qs := (Array.getElem?_eq_some_iff.1 hq).1; replace HB := hide (bseq HB.out hb); clear hb hq K2))
  go_ret
  exact ⟨rfl, HB.out.alloc HB.out.size _⟩
end Go.Proofs.YtodooppapciegaaGreatDoor
namespace Go.Proofs.YtodooppapciegaaGreatDoor
open Go.RowKit Go.Shelf
set_option linter.unusedVariables false
set_option linter.unusedSimpArgs false

/-- How a pattern's beginning is read: whether it is folded, and from where on. -/
def Fd (s : ByteArray) (f : Bool) (p0 : Nat) : Prop := if Lib.hasPrefix s.data.toList (⟨#[92, 105]⟩ : ByteArray).data.toList = true then f = true ∧ p0 = 2 ∧ 2 ≤ s.size else f = false ∧ p0 = 0
set_option maxRecDepth 100000 in
set_option maxHeartbeats 4000000 in
theorem xcompile_long (s : ByteArray) (w : World) (hs : 256 < s.size) (hs2 : s.size ≤ 9223372036854775807) :
    Calls Tryz.prog 4 #[.string s] w fun e w' => ∃ k, e = .returned (.tuple #[.pointer none, .iface 43 (.pointer (some ⟨k, 0, none⟩))]) ∧ w'.heap[k]? = some (.cells #[.int .i64 4, .int .i64 0] 45 (0, 0)) ∧ Below w.heap.size w w' := by
  have hsI : 256 < (s.size : Int) := by omega
  have hsJ : (s.size : Int) ≤ 9223372036854775807 := by omega
  go_enter Tryz.func4, Tryz.ntmps4
  go_wp2_with (fail)
  go_ret2
  exact ⟨w.heap.size, rfl, heap_alloc_new w _, (Below.refl _ _).alloc (Nat.le_refl _) _⟩
set_option maxRecDepth 100000 in
set_option maxHeartbeats 4000000 in
theorem xcompile_no (s : ByteArray) (w : World) (hs : s.size ≤ 256) (f : Bool) (p0 : Nat) (hf : Fd s f p0) (q : Nat) (hR : Rd s f p0 none q) :
    Calls Tryz.prog 4 #[.string s] w fun e w' => ∃ k, e = .returned (.tuple #[.pointer none, .iface 43 (.pointer (some ⟨k, 0, none⟩))]) ∧ w'.heap[k]? = some (.cells #[.int .i64 60, .int .i64 (q : Int)] 45 (0, 0)) ∧ Below w.heap.size w w' := by
  have hB : Below w.heap.size w (w.alloc (.cells #[.string s, .int .i64 0, .bool false, .slice none 0 0] 48)) := (Below.refl _ w).alloc (Nat.le_refl _) _
  have hr : Rx (w.alloc (.cells #[.string s, .int .i64 0, .bool false, .slice none 0 0] 48)) w.heap.size s 0 false (.slice none 0 0) := heap_alloc_new w _
  have kr := xread_any w.heap.size s _ hr (by omega) f p0 hf none q hR
  have KR := hide kr
  have HB := hide hB
  have hsI : (s.size : Int) ≤ 256 := by omega
  clear hr kr hB hR hf
  go_enter Tryz.func4, Tryz.ntmps4
  go_upto_region 4 with (fail)
  generalize w.alloc (.cells #[.string s, .int .i64 0, .bool false, .slice none 0 0] 48) = X at *
  go_upto_region 5 with (go_at_call 13; refine (KR.out).mono ?_; rintro e x ⟨rfl, v, hR, hG, _⟩; have HR := hide hR; have HG := hide hG; clear hR hG KR)
  have c1 := HR.out.at
  have hbx : Below w.heap.size w x := HB.out.trans ⟨HG.out.1, HG.out.2.1, HG.out.2.2.1, HG.out.2.2.2.1, fun k hk => HG.out.2.2.2.2 k (Nat.lt_of_lt_of_le hk HB.out.size) (Nat.ne_of_lt hk)⟩
  have HBX := hide hbx
  clear hbx HB HG HR
  go_region
  go_wp2_with (fail)
  go_ret2
  exact ⟨_, rfl, heap_alloc_new _ _, (HBX.out.trans (below_dwX _ x _)).alloc HBX.out.size _⟩
set_option maxRecDepth 100000 in
set_option maxHeartbeats 4000000 in
theorem xcompile_yesL (s : ByteArray) (w : World) (hs : s.size ≤ 256) (f : Bool) (p0 : Nat) (hf : Fd s f p0) (its : List Kd) (q : Nat) (hR : Rd s f p0 (some its) q) :
    Calls Tryz.prog 4 #[.string s] w fun e w' => ∃ pb D, e = .returned (.tuple #[.pointer (some ⟨pb, 0, none⟩), .nilIface]) ∧ PatL D its s w' pb ∧ its.length ≤ 512 ∧ Below w.heap.size w w' ∧ ∀ k, D k → w.heap.size ≤ k := by
  have hB : Below w.heap.size w (w.alloc (.cells #[.string s, .int .i64 0, .bool false, .slice none 0 0] 48)) := (Below.refl _ w).alloc (Nat.le_refl _) _
  have hr : Rx (w.alloc (.cells #[.string s, .int .i64 0, .bool false, .slice none 0 0] 48)) w.heap.size s 0 false (.slice none 0 0) := heap_alloc_new w _
  have kr := xread_any w.heap.size s _ hr (by omega) f p0 hf (some its) q hR
  have KR := hide kr
  have HB := hide hB
  have hsI : (s.size : Int) ≤ 256 := by omega
  clear hr kr hB hR hf
  go_enter Tryz.func4, Tryz.ntmps4
  go_upto_region 4 with (fail)
  generalize w.alloc (.cells #[.string s, .int .i64 0, .bool false, .slice none 0 0] 48) = X at *
  go_wp2_with (go_at_call 13; refine (KR.out).mono ?_; rintro e x ⟨rfl, v, hR, hG, hI⟩; have HR := hide hR; have HLN := hide (hI its rfl).1; have HI := hide (hI its rfl).2; have HG := hide hG; clear hR hI hG KR)
  obtain ⟨va, vq, rfl⟩ := HI.out.shape
  have c3 := HR.out.items
  have mk : ∀ W : World, Below x.heap.size x W → (Below x.heap.size x W ∧ W.cell? ⟨w.heap.size, 3, none⟩ = some (.slice va its.length vq)) := fun W hW => ⟨hW, (HR.out.below hW).items⟩
  have MK := hide mk
  have kc := fun W => clone_any s W (by omega)
  have KC := hide kc
  clear mk kc c3
  refine wp_region_held_drew (S := fun W => Below x.heap.size x W ∧ W.cell? ⟨w.heap.size, 3, none⟩ = some (.slice va its.length vq)) (by kernel_rfl) (MK.out _ (Below.refl _ x).drew) (fun hS => ?_)
  refine wpAnyH_take (i := 0) (v := (.string s)) rfl (by kernel_rfl) (by kernel_rfl) (by kernel_rfl) (fun _ _ _ h => h) (Or.inl ⟨by kernel_rfl, fun w' hw => by (obtain ⟨_, z0⟩ := hw; go_simp)⟩) hS ?_
  refine wpAnyH_take (i := 2) (v := (.pointer (some ⟨w.heap.size, 3, none⟩))) rfl (by kernel_rfl) (by kernel_rfl) (by kernel_rfl) (fun _ _ _ h => h) (Or.inl ⟨by kernel_rfl, fun w' hw => by (obtain ⟨_, z0⟩ := hw; go_simp)⟩) hS ?_
  refine wpAnyH_take (i := 3) (v := (.slice va its.length vq)) rfl (by kernel_rfl) (by kernel_rfl) (by kernel_rfl) (fun _ _ _ h => h) (Or.inl ⟨by kernel_rfl, fun w' hw => by (obtain ⟨_, z0⟩ := hw; go_simp)⟩) hS ?_
  refine wpAnyH_ready (rs := [1]) (by kernel_rfl) (by simp) ?_
  refine AllReadyH.cons rfl (fun K hK => ?_) AllReadyH.nil
  rw [if_pos (by kernel_rfl)]
  go_simp
  go_wp2_with (go_at_call 14; refine (KC.out _).mono ?_; rintro e z ⟨rfl, hbz⟩; have HZ := hide (bseq (Below.refl _ x).drew hbz : Below x.heap.size x z); clear hbz)
  refine hK.out _ _ (MK.out _ HZ.out) (fun hS2 => ?_)
  clear hK K
  refine wpAnyH_take (i := 4) (v := (.agg #[.string s, .slice va its.length vq, .bool true])) rfl (by kernel_rfl) (by kernel_rfl) (by kernel_rfl) (fun _ _ _ h => h) (Or.inl ⟨by kernel_rfl, fun w' hw => by (obtain ⟨_, z0⟩ := hw; go_simp)⟩) hS2 ?_
  refine wpAnyH_ready (rs := [5]) (by kernel_rfl) (by simp) ?_
  refine AllReadyH.cons rfl (fun K hK => ?_) AllReadyH.nil
  rw [if_pos (by kernel_rfl)]
  go_simp
  refine hK.out _ _ (MK.out _ (HZ.out.alloc HZ.out.size _)) (fun hS3 => ?_)
  clear hK K
  refine wpAnyH_take (i := 6) (v := (.pointer (some ⟨z.heap.size, 0, none⟩))) rfl (by kernel_rfl) (by kernel_rfl) (by kernel_rfl) (fun _ _ _ h => h) (Or.inl ⟨by kernel_rfl, fun w' hw => by (obtain ⟨_, z0⟩ := hw; go_simp)⟩) hS3 ?_
  refine wpAnyH_take (i := 7) (v := .nilIface) rfl (by kernel_rfl) (by kernel_rfl) (by kernel_rfl) (fun _ _ _ h => h) (Or.inl ⟨by kernel_rfl, fun w' hw => by (obtain ⟨_, z0⟩ := hw; go_simp)⟩) hS3 ?_
  refine wpAnyH_done (by kernel_rfl) ?_ _
  simp only [Act.put, List.getElem_toArray, List.getElem_cons_zero, List.getElem_cons_succ, List.setIfInBounds_toArray, List.set_cons_zero, List.set_cons_succ]
  go_wp2_with (fail)
  go_ret2
  have hbx : Below w.heap.size w x := HB.out.trans ⟨HG.out.1, HG.out.2.1, HG.out.2.2.1, HG.out.2.2.2.1, fun k hk => HG.out.2.2.2.2 k (Nat.lt_of_lt_of_le hk HB.out.size) (Nat.ne_of_lt hk)⟩
  have hza : Below x.heap.size x (z.alloc (.cells #[.string s, .slice va its.length vq, .bool true] 51)) := HZ.out.alloc HZ.out.size _
  exact ⟨z.heap.size, _, rfl, ⟨_, heap_alloc_new z _, HI.out.keep (.of_below hza HI.out.1)⟩, by have := HLN.out; omega, hbx.trans (hza.mono hbx.size), fun k hk => Nat.le_trans HB.out.size hk.1⟩
theorem xcompile_yes (s : ByteArray) (w : World) (hs : s.size ≤ 256) (f : Bool) (p0 : Nat) (hf : Fd s f p0) (its : List Kd) (q : Nat) (hR : Rd s f p0 (some its) q) :
    Calls Tryz.prog 4 #[.string s] w fun e w' => ∃ pb D, e = .returned (.tuple #[.pointer (some ⟨pb, 0, none⟩), .nilIface]) ∧ PatL D its s w' pb ∧ its.length ≤ 512 ∧ Below w.heap.size w w' :=
  (xcompile_yesL s w hs f p0 hf its q hR).mono fun e w' ⟨pb, D, h1, h2, h3, h4, _⟩ => ⟨pb, D, h1, h2, h3, h4⟩
end Go.Proofs.YtodooppapciegaaGreatDoor
