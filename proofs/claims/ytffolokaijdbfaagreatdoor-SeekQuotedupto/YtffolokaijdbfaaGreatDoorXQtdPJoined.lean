/- SeekQuoted in the stated row: a quoted text, as a pattern, matches just where that text stands, byte by byte, whatever stands around it; bounded by the bulk of what comes in; the handle of the type of errors is laid. -/
import Derived.Test.YtffolokaijdbfaaGreatDoorURefJoined
import Derived.Test.YtffolokaijdbfaaGreatDoorXRow8
import Derived.Test.YtffolokaijdbfaaGreatDoorXCmpJoined
import Derived.Test.YtffolokaijdbfaaGreatDoorXFltJoined
import Derived.Test.YtffolokaijdbfaaGreatDoorUFirst
import Derived.ProofKit
import Derived.ChangeOld
import Derived.ChangeMaps5
import Derived.SizedLaws
import Derived.JoinedCond
import Derived.Test.YtffolokaijdbfaaGreatDoorCards
import Derived.Test.YtffolokaijdbfaaGreatDoorTie
import Derived.WalkKit
import Derived.OpenShut
import Derived.Deep.DeepHandedRow
import Derived.Deep.DeepWitnessRowRef
import Derived.LaidMore
import Derived.LaidLaws
namespace Go.Proofs.YtffolokaijdbfaaGreatDoor
open Go.RowKit Go.Shelf
set_option linter.unusedVariables false

theorem xmk_yes {b : UInt8} (h : xmk b.toNat = true) : xq1 b = [92, b] := by unfold xq1; rw [if_pos h]
theorem xmk_no {b : UInt8} (h : xmk b.toNat = false) : xq1 b = [b] := by unfold xq1; rw [h]; rfl
theorem bl_at (s : ByteArray) (k : Nat) (h : k < s.size) : (bl s)[k]'(by rw [bl_len]; exact h) = s[k]'h := rfl
set_option maxRecDepth 100000 in
set_option maxHeartbeats 2000000 in
theorem xquote_any (s : ByteArray) (w : World) (hs : s.size ≤ 17592186044416) :
    Calls Tryz.prog 4 #[.string s] w fun e w' => e = .returned (.string ⟨(xqo (bl s)).toArray⟩) ∧ Below w.heap.size w w' := by
  have hsI : (s.size : Int) ≤ 17592186044416 := by omega
  have hbk : (w.alloc (.cells #[.pointer none, .slice none 0 0] 41)).heap[w.heap.size]? = some (.cells #[.pointer none, .slice none 0 0] 41 (0, 0)) := heap_alloc_new w _
  have hb0 : Below w.heap.size w (w.alloc (.cells #[.pointer none, .slice none 0 0] 41)) := (Below.refl _ _).alloc (Nat.le_refl _) _
  have kg := bgrow w.heap.size w.heap.size s.size _ (Nat.le_refl _) hbk hb0.size (by omega)
  have KG := hide kg
  have HB0 := hide hb0
  clear kg hbk hb0
  go_enter Tryz.func4, Tryz.ntmps4
  go_wp2_with (go_at_call 12; refine (KG.out).mono ?_; rintro e x ⟨rfl, hBx, hbx⟩; have HBX := hide hBx; have HX := hide (HB0.out.trans hbx); clear hBx hbx)
  go_loopw [10] (fun i wr => ∃ k : Nat, i = .int .i64 (k : Int) ∧ k ≤ s.size ∧ Bd8 w.heap.size w.heap.size (xqo ((bl s).take k)) wr ∧ Below w.heap.size w wr) (fun i _ => s.size - (intOf i).toNat)
  case atStart => exact ⟨0, rfl, Nat.zero_le _, HBX.out, HX.out⟩
  case round =>
    clear HBX HX
    obtain ⟨k, rfl, hk, hBd, hB⟩ := hrel
    have HBD := hide hBd
    have HB := hide hB
    clear hBd hB
    by_cases hlt : k < s.size
    · have hltI : (k : Int) < (s.size : Int) := by omega
      have hsn := xqo_snoc (l := bl s) (k := k) (by rw [bl_len]; exact hlt)
      rw [bl_at s k hlt] at hsn
      have hln := xqo_len ((bl s).take k)
      rw [List.length_take, bl_len] at hln
      generalize xqo ((bl s).take k) = acc at *
      obtain ⟨c, hc⟩ : ∃ c, s[k]'hlt = c := ⟨_, rfl⟩
      rw [hc] at hsn
      have hcn : (s[k]'hlt).toNat = c.toNat := by rw [hc]
      have HSN := hide hsn
      have hal : acc.length + 2 ≤ 140737488355328 := by omega
      have HAL := hide hal
      clear hsn hln hc hal
      rcases xmk_cases c.toNat with ⟨hm, hcs⟩ | ⟨hm, n1, n2, n3, n4, n5, n6, n7, n8, n9⟩
      · rw [xmk_yes hm] at HSN
        rcases hcs with h | h | h | h | h | h | h | h | h
        all_goals
          have hcc := hcn.trans h
          have KB1 := hide (fun W hb hB => bwriteByte w.heap.size w.heap.size acc 92 W hb (by have := HAL.out; omega) hB)
          have kb2 := fun W hb hB => bwriteByte w.heap.size w.heap.size (acc ++ [92]) c W hb (by have := HAL.out; rw [List.length_append, List.length_singleton]; omega) hB
          rw [h] at kb2
          push_cast at kb2
          have KB2 := hide kb2
          clear hcn h hm kb2
          go_wp2_with (first | (go_at_call 13; refine (KB1.out _ HBD.out HB.out.size).mono ?_; rintro e y ⟨rfl, hBy, hby⟩; have HBY := hide hBy; have HY := hide (HB.out.trans hby); clear hBy hby KB1) | (go_at_call 13; refine (KB2.out _ HBY.out HY.out.size).mono ?_; rintro e z ⟨rfl, hBz, hbz⟩; have HBZ := hide hBz; have HZ := hide (HY.out.trans hbz); clear hBz hbz))
          go_roundw
          case rel => exact ⟨k + 1, by go_num, by omega, by rw [HSN.out]; have := HBZ.out; rwa [List.append_assoc] at this, HZ.out⟩
          case measure => simp [intOf]; omega
      · rw [xmk_no hm] at HSN
        obtain ⟨b, hb⟩ : ∃ b : Nat, c.toNat = b := ⟨_, rfl⟩
        rw [hb] at n1 n2 n3 n4 n5 n6 n7 n8 n9 hcn
        have m1 : ((b : Int) == 46) = false := beq_eq_false_iff_ne.2 (by omega)
        have m2 : ((b : Int) == 91) = false := beq_eq_false_iff_ne.2 (by omega)
        have m3 : ((b : Int) == 93) = false := beq_eq_false_iff_ne.2 (by omega)
        have m4 : ((b : Int) == 42) = false := beq_eq_false_iff_ne.2 (by omega)
        have m5 : ((b : Int) == 43) = false := beq_eq_false_iff_ne.2 (by omega)
        have m6 : ((b : Int) == 63) = false := beq_eq_false_iff_ne.2 (by omega)
        have m7 : ((b : Int) == 94) = false := beq_eq_false_iff_ne.2 (by omega)
        have m8 : ((b : Int) == 36) = false := beq_eq_false_iff_ne.2 (by omega)
        have m9 : ((b : Int) == 92) = false := beq_eq_false_iff_ne.2 (by omega)
        have KB2 := hide (fun W hb hB => bwriteByte w.heap.size w.heap.size acc c W hb (by have := HAL.out; omega) hB)
        rw [hb] at KB2
        clear hm n1 n2 n3 n4 n5 n6 n7 n8 n9 hb
        go_wp2_with (go_at_call 13; refine (KB2.out _ HBD.out HB.out.size).mono ?_; rintro e z ⟨rfl, hBz, hbz⟩; have HBZ := hide hBz; have HZ := hide (HB.out.trans hbz); clear hBz hbz)
        go_roundw
        case rel => exact ⟨k + 1, by go_num, by omega, by rw [HSN.out]; exact HBZ.out, HZ.out⟩
        case measure => simp [intOf]; omega
    · have hge : (s.size : Int) ≤ (k : Int) := by omega
      have hbd := HBD.out
      rw [List.take_of_length_le (by rw [bl_len]; omega)] at hbd
      have HBD2 := hide hbd
      clear hbd
      go_wp2_with (go_at_call 14; refine (bstring _ _ _ _ HBD2.out HB.out.size).mono ?_; rintro e z ⟨rfl, hBz, hbz⟩; have HZ := hide (HB.out.trans hbz); clear hBz hbz)
      go_ret
      exact ⟨rfl, HZ.out⟩
end Go.Proofs.YtffolokaijdbfaaGreatDoor
namespace Go.Proofs.YtffolokaijdbfaaGreatDoor
open Go.RowKit Go.Shelf
set_option linter.unusedVariables false

set_option maxHeartbeats 1000000 in
theorem xcut_any (s : ByteArray) (m : Nat) (w : World) (hm : m ≤ 1048576) :
    Calls Tryz.prog 9 #[.string s, .int .i64 (m : Int)] w fun e w' => e = .returned (.string (s.extract 0 m)) ∧ w' = w := by
  have hmI : (m : Int) ≤ 1048576 := by omega
  by_cases h : m < s.size
  · have hI : (m : Int) < (s.size : Int) := by omega
    clear h
    go_enter Tryz.func9, Tryz.ntmps9
    go_wp2
    go_ret
    exact ⟨rfl, rfl⟩
  · have hI : (s.size : Int) ≤ (m : Int) := by omega
    have he : s.extract 0 m = s := by
      have : s.extract 0 m = s.extract 0 s.size := by
        ext1
        simp only [ByteArray.data_extract]
        rw [Array.extract_eq_self_of_le (by simpa using (show s.size ≤ m by omega)), Array.extract_eq_self_of_le (by simp)]
      rw [this]
      simp
    rw [he]
    clear h he
    go_enter Tryz.func9, Tryz.ntmps9
    go_wp2
    go_ret
    exact ⟨rfl, rfl⟩
end Go.Proofs.YtffolokaijdbfaaGreatDoor
namespace Go.Proofs.YtffolokaijdbfaaGreatDoor
open Go.RowKit Go.Shelf
set_option linter.unusedVariables false
set_option linter.unusedSimpArgs false

theorem stands_bg {t s : List UInt8} {q : Nat} (h : Stands t s q) : Bg t q := by
  have := (h.2.2 0 (Nat.zero_le _)).2 (by
    by_cases e : s = []
    · rw [e]; exact .inl rfl
    · exact .inr (St_zero e))
  rwa [Nat.add_zero] at this
theorem match_std {t s : List UInt8} {q : Nat} (hq : q ≤ t.length) :
    ((matchV (plain (chsF s.length s)) t (q : Int)).2 = true ↔ Stands t s q) ∧ ((matchV (plain (chsF s.length s)) t (q : Int)).2 = true → (matchV (plain (chsF s.length s)) t (q : Int)).1 = (q : Int) + s.length) := by
  by_cases hb : beginsV t (q : Int) = true
  · obtain ⟨h1, h2⟩ := match_plain (s := s) hq hb
    refine ⟨h2, fun h => ?_⟩
    rw [if_pos h] at h1
    rw [h1]
  · have h0 : matchV (plain (chsF s.length s)) t (q : Int) = (0, false) := by unfold matchV; rw [if_neg hb]
    rw [h0]
    exact ⟨⟨fun h => absurd h (by simp), fun h => absurd ((begins_bg hq).2 (stands_bg h)) hb⟩, fun h => absurd h (by simp)⟩
theorem xqo_ge (l : List UInt8) : l.length ≤ (xqo l).length := by
  induction l with
  | nil => exact Nat.le_refl _
  | cons b t ih =>
    rw [xqo_cons, List.length_append, List.length_cons]
    have : 1 ≤ (xq1 b).length := by unfold xq1; split <;> simp
    omega
theorem bl_mk (l : List UInt8) : bl ⟨l.toArray⟩ = l := by unfold bl; simp
theorem pre_qi (l : List UInt8) : Lib.hasPrefix (xqo l) [92, 105] = false := by
  cases l with
  | nil => rfl
  | cons b t =>
    rw [xqo_cons]
    rcases xmk_cases b.toNat with ⟨h, g⟩ | ⟨h, g⟩
    · rw [xq1_mark h]
      have hb : b ≠ 105 := fun e => by rw [e] at g; revert g; decide
      have hb2 : ¬ (105 : UInt8) = b := fun e => hb e.symm
      simp [Lib.hasPrefix, List.isPrefixOf, hb, hb2]
    · rw [xq1_plain h]
      have hb : b ≠ 92 := fun e => by rw [e] at g; revert g; decide
      have hb2 : ¬ (92 : UInt8) = b := fun e => hb e.symm
      simp [Lib.hasPrefix, List.isPrefixOf, hb, hb2]
set_option maxRecDepth 100000 in
set_option maxHeartbeats 2000000 in
theorem xtext_any (D : Nat → Prop) (its : List Kd) (txt : ByteArray) (w : World) (pb : Nat) (h : PatL D its txt w pb) :
    Calls Tryz.prog 8 #[.pointer (some ⟨pb, 0, none⟩)] w fun e w' => e = .returned (.string txt) ∧ w' = w := by
  have kn := none_made pb true w h.made
  obtain ⟨iv, h1, _⟩ := h
  have c0 := cel2 h1 0 _ rfl
  have KN := hide kn
  clear kn h1
  go_enter Tryz.func8, Tryz.ntmps8
  go_wp2_with (go_at_call 19; refine (KN.out).mono ?_; rintro e x ⟨rfl, rfl⟩)
  go_ret
  exact ⟨rfl, rfl⟩
set_option maxRecDepth 100000 in
set_option maxHeartbeats 4000000 in
theorem seekQuoted_walk (a s z : ByteArray) (w : World) (hs : s.size ≤ 1048576) (hE : LaidE w) :
    Calls Tryz.prog 3 #[.string a, .string s, .string z] w fun e w' => e = .returned (.bool true) ∧ Below w.heap.size w w' := by
  have kq := xquote_any s w (by omega)
  have hq2 := xqo_len (bl s)
  have hq1 := xqo_ge (bl s)
  rw [bl_len] at hq1 hq2
  have hqs : (⟨(xqo (bl s)).toArray⟩ : ByteArray).size = (xqo (bl s)).length := by simp [ByteArray.size]
  have hqb : bl ⟨(xqo (bl s)).toArray⟩ = xqo (bl s) := bl_mk _
  obtain ⟨q, hq⟩ : ∃ q : ByteArray, q = ⟨(xqo (bl s)).toArray⟩ := ⟨_, rfl⟩
  rw [← hq] at kq hqs hqb
  have hpre : Lib.hasPrefix q.data.toList (⟨#[92, 105]⟩ : ByteArray).data.toList = false := by
    have : q.data.toList = xqo (bl s) := hqb
    rw [this]
    exact pre_qi _
  have kw := fun W => xworks_any W
  have HE := hide hE
  by_cases hl : 256 < q.size
  · have kc := fun W => xcompile_long q W hl (by omega)
    have kf := fun k W (hk : W.heap[k]? = some (.cells #[.int .i64 4, .int .i64 0] 46 (0, 0))) (hW : LaidE W) => fault_some k 4 0 W (by decide) hk hW
    have hlI : 256 < (q.size : Int) := by omega
    have KQ := hide kq
    have KC := hide kc
    have KF := hide kf
    have KW := hide kw
    clear kq kc kf kw hq1 hq2 hqs hqb hq hpre hE
    go_enter Tryz.func3, Tryz.ntmps3
    go_wp2_with (first
      | (go_at_call 4; refine (KQ.out).mono ?_; rintro e x ⟨rfl, hb⟩; have HB := hide hb; clear hb KQ)
      | (go_at_call 5; refine (KC.out _).mono ?_; rintro e x1 ⟨k, rfl, hk, hb⟩; have HK := hide hk; replace HB := hide (bseq HB.out hb); clear hk hb KC)
      | (go_at_call 6; refine (KF.out _ _ HK.out (HE.out.below HB.out)).mono ?_; rintro e x2 ⟨rfl, hb⟩; replace HB := hide (bseq HB.out hb); clear hb KF)
      | (go_at_call 7; refine (KW.out _).mono ?_; rintro e x3 ⟨rfl, hb⟩; replace HB := hide (bseq HB.out hb); clear hb KW))
    go_ret
    exact ⟨rfl, HB.out⟩
  · have hrd := rd_quoted (s := q) (f := false) (by omega) (bl s).length (bl s) 0 (Nat.le_refl _) (Nat.zero_le _) (by rw [List.drop_zero]; exact hqb)
    obtain ⟨its, hits⟩ : ∃ its, its = plain (chsF (bl s).length (bl s)) := ⟨_, rfl⟩
    have hpl : (chsF (bl s).length (bl s)).map (fun c => ((2, oneP false c) : Kd)) = its := by rw [hits]; rfl
    rw [hpl] at hrd
    have kc := fun W => xcompile_yes q W (by omega) false 0 (by unfold Fd; rw [hpre]; exact ⟨rfl, rfl⟩) its q.size hrd
    have k1 := xcut_any a 50
    have k2 := xcut_any z 50
    have ha5 : (a.extract 0 50).size ≤ 50 := by rw [ByteArray.size_extract]; omega
    have hz5 : (z.extract 0 50).size ≤ 50 := by rw [ByteArray.size_extract]; omega
    generalize a.extract 0 50 = a1 at *
    generalize z.extract 0 50 = z1 at *
    obtain ⟨t, ht⟩ : ∃ t, t = a1 ++ s ++ z1 := ⟨_, rfl⟩
    have hts : t.size ≤ 1000 := by rw [ht, ByteArray.size_append, ByteArray.size_append]; omega
    have htI : (t.size : Int) ≤ 1000 := by omega
    have hss : (s.size : Int) ≤ 256 := by omega
    have hsN : s.size ≤ 256 := by omega
    have has : (a1 ++ s).size ≤ 306 := by rw [ByteArray.size_append]; omega
    have hlI : (q.size : Int) ≤ 256 := by omega
    have h2 : (q.toList == q.toList) = true := by simp
    have km := fun (k : Nat) (hk : k ≤ t.size) => match_std (t := bl t) (s := bl s) (q := k) (by rw [bl_len]; exact hk)
    rw [← hits, bl_len] at km
    have kt := fun D W pb (h : PatL D its q W pb) => xtext_any D its q W pb h
    have kx := fun D W pb (h : PatL D its q W pb) (hn : its.length ≤ 512) (p : Int) hp => match_any D its q t W pb h (by omega) (by omega) p hp
    have ks := fun (k : Nat) W (hk : k ≤ t.size) => stands_any t s k W (by omega) (by omega) hk
    have KQ := hide kq
    have KC := hide kc
    have KW := hide kw
    have K1 := hide k1
    have K2 := hide k2
    have KT := hide kt
    have KM := hide km
    have KX := hide kx
    have KS := hide ks
    have HT := hide ht
    have HTS := hide hts
    clear kq kc kw k1 k2 kt km kx ks hq1 hq2 hqs hqb hq hpre hE hrd hits hpl ht hts hl hs
    have M1 := hide trivial
    go_enter Tryz.func3, Tryz.ntmps3
    go_upto_region 9 with (first
      | (go_at_call 4; refine (KQ.out).mono ?_; rintro e x ⟨rfl, hb⟩; have HB := hide hb; clear hb KQ)
      | (go_at_call 5; refine (KC.out _).mono ?_; rintro e x1 ⟨pb, D, rfl, hp, hn, hb⟩; have HP := hide hp; have HN := hide hn; replace HB := hide (bseq HB.out hb); clear hp hn hb KC)
      | (go_at_call 8; refine (KT.out _ _ _ HP.out).mono ?_; rintro e x2 ⟨rfl, hx⟩; obtain rfl : x1 = x2 := hx.symm; clear hx)
      | (go_at_call 9; clear M1; refine (K1.out _ (by decide)).mono ?_; rintro e x3 ⟨rfl, hx⟩; obtain rfl : x1 = x3 := hx.symm; clear hx)
      | (go_at_call 9; refine (K2.out _ (by decide)).mono ?_; rintro e x4 ⟨rfl, hx⟩; obtain rfl : x1 = x4 := hx.symm; clear hx))
    rw [← HT.out]
    go_wp2_with (fail)
    go_loopw [14] (fun i wr => ∃ k : Nat, i = .int .i64 (k : Int) ∧ k ≤ t.size + 1 ∧ PatL D its q wr pb ∧ Below w.heap.size w wr) (fun i _ => t.size + 1 - (intOf i).toNat)
    case atStart => exact ⟨0, rfl, by omega, HP.out, HB.out⟩
    case round =>
      obtain ⟨k, rfl, hk, hP, hB⟩ := hrel
      replace HP := hide hP
      replace HB := hide hB
      clear hP hB
      by_cases hlt : k ≤ t.size
      · have hltI : (k : Int) ≤ (t.size : Int) := by omega
        obtain ⟨hm1, hm2⟩ := KM.out k hlt
        have kx := fun W (h : PatL D its q W pb) => KX.out D W pb h HN.out (k : Int) (by omega)
        have ks := fun W => KS.out k W hlt
        generalize matchV its (bl t) (k : Int) = m at *
        obtain ⟨m1, m2⟩ := m
        simp only at hm1 hm2 kx
        have KX1 := hide kx
        have KS1 := hide ks
        clear kx ks
        cases m2 with
        | true =>
          obtain rfl := hm2 rfl
          have HM := hide hm1
          clear hm1 hm2
          have g1 : ((k : Int) + (s.size : Int) != (k : Int) + (s.size : Int)) = false := by simp
          go_wp2_with (first
            | (go_at_call 10; refine (KX1.out _ HP.out).mono ?_; rintro e x5 ⟨rfl, hb⟩; replace HP := hide (HP.out.below hb); replace HB := hide (bseq HB.out hb); clear hb KX1)
            | (go_at_call 11; refine (KS1.out _).mono ?_; rintro e x6 ⟨⟨B, rfl, hBB⟩, hb⟩; obtain rfl : B = true := hBB.2 (HM.out.1 (by simp)); replace HP := hide (HP.out.below hb); replace HB := hide (bseq HB.out hb); clear hb hBB))
          go_roundw
          case rel => exact ⟨k + 1, by go_num, by omega, HP.out, HB.out⟩
          case measure => simp [intOf]; omega
        | false =>
          have HM := hide hm1
          clear hm1 hm2
          go_wp2_with (first
            | (go_at_call 10; refine (KX1.out _ HP.out).mono ?_; rintro e x5 ⟨rfl, hb⟩; replace HP := hide (HP.out.below hb); replace HB := hide (bseq HB.out hb); clear hb KX1)
            | (go_at_call 11; refine (KS1.out _).mono ?_; rintro e x6 ⟨⟨B, rfl, hBB⟩, hb⟩; obtain rfl : B = false := (by cases B with | false => rfl | true => exact absurd (HM.out.2 (hBB.1 rfl)) (by simp)); replace HP := hide (HP.out.below hb); replace HB := hide (bseq HB.out hb); clear hb hBB))
          go_roundw
          case rel => exact ⟨k + 1, by go_num, by omega, HP.out, HB.out⟩
          case measure => simp [intOf]; omega
      · have hge : (t.size : Int) < (k : Int) := by omega
        go_wp2_with (go_at_call 7; refine (KW.out _).mono ?_; rintro e x3 ⟨rfl, hb⟩; replace HB := hide (bseq HB.out hb); clear hb KW)
        go_ret
        exact ⟨rfl, HB.out⟩
end Go.Proofs.YtffolokaijdbfaaGreatDoor
namespace Go.Proofs.YtffolokaijdbfaaGreatDoor
open Go.ChangeShapes Go.WideShapes Go.ChangeAt Go.RowKit
set_option linter.unusedVariables false

theorem own : ownKnob Tryz.prog.godebug = none := by kernel_rfl
theorem laidOut : laidOutB Tryz.prog = true := by kernel_rfl
theorem size_of_sized {s : ByteArray} (h : s.data.toList.length ≤ reachBytes) : s.size ≤ 140737488351232 := by
  have : s.data.toList.length = s.size := by simp
  have e : reachBytes = 140737488351232 := by decide
  omega
theorem bulk_pos {H : Type} (d : DataW H) : 1 ≤ Rows.uptoBulk d := by
  cases d with
  | lit l => cases l <;> simp [Rows.uptoBulk]
  | _ => simp [Rows.uptoBulk]
theorem bulk_len {H : Type} (l : List (DataW H)) : l.length ≤ Rows.uptoBulkAll l := by
  induction l with
  | nil => simp [Rows.uptoBulkAll]
  | cons d r ih =>
    have := bulk_pos d
    simp only [Rows.uptoBulkAll, List.length_cons]
    omega
theorem bulk_string {H : Type} (s : ByteArray) : s.size ≤ Rows.uptoBulk (H := H) (.lit (.string s.data.toList)) := by
  simp [Rows.uptoBulk]
theorem bulk_nums {H : Type} {d : DataW H} {zs : List Int} (h : d = .nil ∧ zs = [] ∨ ∃ el sp, d = .slice el sp ∧ el.length = zs.length) : zs.length ≤ Rows.uptoBulk d := by
  rcases h with ⟨_, rfl⟩ | ⟨el, sp, rfl, h⟩
  · simp
  · have := bulk_len el
    simp only [Rows.uptoBulk]
    omega
theorem bulk_of {H : Type} {l : List (DataW H)} (h : Rows.uptoSmall H l = true) : Rows.uptoBulkAll l ≤ 1048576 := of_decide_eq_true h

end Go.Proofs.YtffolokaijdbfaaGreatDoor
namespace Go.Proofs.YtffolokaijdbfaaGreatDoor
open Go.ChangeShapes Go.WideShapes Go.ChangeAt Go.RowKit
set_option linter.unusedVariables false

theorem gErrT : Tryz.prog.globalNamed "errors.errorType" = some 0 := by kernel_rfl
theorem errOnly : ((List.range Tryz.prog.types.size).filter fun t => Tryz.prog.rowNamed t [101, 114, 114, 111, 114]) = [25] := by kernel_rfl
theorem cutRt : (Tryz.prog.cutTypes.find? (·.1 == "internal/reflectlite.rtype")).map (·.2) = some 115 := by kernel_rfl
theorem handErr (ty : TypeId) (h : ty = 25) : typeHandle Tryz.prog ty = .pointer (some ⟨2, 25, none⟩) := by subst h; kernel_rfl
theorem laid_ofE {W : World} {L : List (String × DataW Unit)} (hH : (L.filter fun x => x.2.handleName?.isSome) = [("errors.errorType", Rows.laid_errors_errorType)]) (h : laidMetH Tryz.prog L W) : LaidE W := by
  unfold laidMetH at h
  rw [hH] at h
  obtain ⟨h1, h2⟩ := h
  have h3 := h2 _ (List.mem_singleton.2 rfl)
  simp only [show (Rows.laid_errors_errorType : DataW Unit).funcsIn? = none from rfl] at h3
  obtain ⟨name, u, ty, e1, e2, e3, e4, e5⟩ := h3
  have en : name = [101, 114, 114, 111, 114] := (Option.some.inj ((show (Rows.laid_errors_errorType : DataW Unit).handleName? = some [101, 114, 114, 111, 114] from rfl).symm.trans e1)).symm
  subst en
  obtain rfl := Option.some.inj (cutRt.symm.trans e2)
  have hm : ty ∈ (List.range Tryz.prog.types.size).filter fun t => Tryz.prog.rowNamed t [101, 114, 114, 111, 114] := List.mem_filter.2 ⟨List.mem_range.2 e3, e4⟩
  rw [errOnly] at hm
  have ht := List.mem_singleton.1 hm
  have c := World.var?_cell gErrT e5 0
  rw [handErr ty ht] at c
  unfold LaidE
  rw [c]
  rfl
theorem door_metE (os : Os) (args : Array Value) {L : List (String × DataW Unit)} (hL : (L.filter fun x => x.2.handleName?.isNone) = [])
    (hH : (L.filter fun x => x.2.handleName?.isSome && x.2.funcsIn?.isNone) = [("errors.errorType", Rows.laid_errors_errorType)]) (hF : funcsListed L = []) : laidMetH Tryz.prog L ((World.doorLaid Tryz.prog 100 os).forCall (fun _ _ => 0) ⟨#[], args, []⟩).memory :=
  laidMetH_of_parts3 (fuel := 8) (by rw [hL]; exact laidMet_of_run' 8 (by kernel_rfl) (by kernel_rfl)) (by rw [hH]; kernel_rfl) (by rw [hF]; rfl)
end Go.Proofs.YtffolokaijdbfaaGreatDoor
namespace Go.Proofs.YtffolokaijdbfaaGreatDoor.seekQuoted
open Go.ChangeShapes Go.WideShapes Go.ChangeAt Go.RowKit Go.Proofs.YtffolokaijdbfaaGreatDoor
set_option linter.unusedVariables false

set_option maxRecDepth 100000 in
theorem contract (H : Type) (enc : TypeId × Value → H) (W : World) (base : Nat) (args : Array Value) (ds gs : List (DataW H)) (before : List MemPlace)
    (hval : ∀ (j : Nat) t v, Tryz.f3.params[j]? = some t → args[j]? = some v → Value.okWide Tryz.prog W .any base t v)
    (hW : DataW.Whole enc Tryz.prog Tryz.f3.params.toList Rows.seekQuotedSpec.vars false W args.toList ds gs before) (hk : Rows.uptoSmall H (ds ++ gs) = true) (hlaid : laidMetH Tryz.prog Rows.seekQuotedUptoRow.laid W) :
    Calls Tryz.prog 3 args W fun e W' => ∃ v, e = .returned v ∧ Rows.seekQuotedSpec.post enc Tryz.prog Tryz.f3 false true false false W args v W' := by
  have hW' := hW
  have hE := laid_ofE rfl hlaid
  obtain ⟨p, q, hA0, hV, rfl, hfz, hnd⟩ := hW
  have hA : DataW.TrodAll enc Tryz.prog W 0 (fun _ => true) true Tryz.f3.params.toList args.toList ds p := hA0
  rw [Tryz.params3] at hA hval
  obtain ⟨v0, vs0, d0, ds0, p0, q0, hargs, rfl, rfl, h0, r0⟩ := trodAll_cons hA
  obtain ⟨v1, vs1, d1, ds1, p1, q1, rfl, rfl, rfl, h1, r1⟩ := trodAll_cons r0
  obtain ⟨v2, vs2, d2, ds2, p2, q2, rfl, rfl, rfl, h2, r2⟩ := trodAll_cons r1
  obtain ⟨rfl, rfl, rfl⟩ := trodAll_nil r2
  obtain rfl : args = #[v0, v1, v2] := by cases args; simp_all
  obtain ⟨rfl, rfl⟩ := trodVars_none hV
  have hb := bulk_of hk
  simp only [List.append_nil, Rows.uptoBulkAll] at hb
  obtain ⟨a0, rfl, rfl, rfl, l0⟩ := Go.ChangeMaps.open_string Tryz.underlying9 (hval 0 9 v0 rfl rfl) h0
  have m0 := bulk_string (H := H) a0
  have n0 : a0.size ≤ 9223372036854775807 := l0
  obtain ⟨a1, rfl, rfl, rfl, l1⟩ := Go.ChangeMaps.open_string Tryz.underlying9 (hval 1 9 v1 rfl rfl) h1
  have m1 := bulk_string (H := H) a1
  have n1 : a1.size ≤ 9223372036854775807 := l1
  obtain ⟨a2, rfl, rfl, rfl, l2⟩ := Go.ChangeMaps.open_string Tryz.underlying9 (hval 2 9 v2 rfl rfl) h2
  have m2 := bulk_string (H := H) a2
  have n2 : a2.size ≤ 9223372036854775807 := l2
  clear hA0
  refine (seekQuoted_walk a0 a1 a2 W (by omega) hE).mono fun e W' ⟨he, bel⟩ => ?_
  subst he
  exact ⟨_, rfl, _, _, _, [], _, [], hW', trodAll_mk1 (shut_bool Tryz.underlying4 _), (trodAll_cons_mk (Go.ChangeMaps.shut_string Tryz.underlying9 l0) (trodAll_cons_mk (Go.ChangeMaps.shut_string Tryz.underlying9 l1) (trodAll_cons_mk (Go.ChangeMaps.shut_string Tryz.underlying9 l2) trodAll_mk0))), rfl, bel.frame _, fun h => by cases h⟩

theorem reads (os : Os) {H : Type} (enc : TypeId × Value → H) : ∃ places, DataW.whole enc Tryz.prog ((World.doorLaid Tryz.prog 100 os).forCall (fun _ _ => 0) ⟨#[], #[.string ⟨#[]⟩, .string ⟨#[]⟩, .string ⟨#[]⟩], []⟩).memory Tryz.f3.params.toList Rows.seekQuotedSpec.vars false (#[.string ⟨#[]⟩, .string ⟨#[]⟩, .string ⟨#[]⟩] : Array Value).toList 8 = some ([.lit (.string []), .lit (.string []), .lit (.string [])], [], places) :=
  ⟨[], by kernel_rfl⟩

set_option maxRecDepth 100000 in
theorem liftedUpto (os : Os) (started : os.Started) (H : Type) (enc : TypeId × Value → H) (F : Stop.Interp) :
    ReturnsInHanded {} Tryz.checked os 3 .any ((Rows.OpenSpec.upto Rows.seekQuotedSpec).preRow enc Tryz.prog Tryz.f3 Rows.seekQuotedUptoRow.domain false Rows.seekQuotedUptoRow.laid) (((Rows.OpenSpec.upto Rows.seekQuotedSpec).at F).post enc Tryz.prog Tryz.f3 false true false false) := by
  obtain ⟨places, hx⟩ := reads os enc
  refine returnsInHanded_of_row (C := Tryz.checked) (s := Rows.OpenSpec.upto Rows.seekQuotedSpec) own started (by kernel_rfl) Tryz.func3
    (witness_row_atRef (enc := enc) (C := Tryz.checked) false (World.doorLaid Tryz.prog 100 os) #[.string ⟨#[]⟩, .string ⟨#[]⟩, .string ⟨#[]⟩] rfl (by kernel_rfl) (by kernel_rfl) (by kernel_rfl)
      (OpenSpec.preRow_of_cond 8 hx (by kernel_rfl) (fun k hk => by cases hk; kernel_rfl) (by kernel_rfl) (door_metE os _ rfl rfl rfl))) ?_
  intro W base args ds gs before hval hW _ hcond hsz hL _ _
  exact contract H enc W base args ds gs before hval hW (hcond _ rfl) hL

theorem saidUpto : Rows.SeekQuotedUptoSaid :=
  OpenClaim.holds_of_cond 3 Tryz.f3 rfl rfl rfl rfl rfl rfl rfl ⟨rfl, rfl, rfl, rfl, rfl⟩ rfl rfl rfl rfl rfl (by kernel_rfl) Tryz.func3 (by kernel_rfl)
    (of_decide_eq_true (by kernel_rfl)) (by unfold Func.isWrapper; first | (rw [if_pos (by decide +kernel)]; kernel_rfl) | (rw [if_neg (by decide +kernel)]; exact ⟨rfl, rfl⟩))
    (fun os started H enc _ F => by rw [OpenClaim.pre_eq_preRow]; exact liftedUpto os started H enc F)

theorem plain (f : FuncId) (fn : Func) (hf : Tryz.pinned.checked.prog.funcNamed "vellum/vellumlaw06.SeekQuoted" = some f) (hfn : Tryz.pinned.checked.prog.funcs[f]? = some fn) :
    true = Tryz.pinned.checked.prog.looks [] ∧ ∀ (j : Nat) t, fn.params[j]? = some t → Tryz.pinned.checked.prog.wantsStandIn t = false := by
  obtain rfl : f = 3 := Option.some.inj ((show Tryz.prog.funcNamed "vellum/vellumlaw06.SeekQuoted" = some 3 by kernel_rfl).symm.trans hf) |>.symm
  obtain rfl : fn = Tryz.f3 := (Option.some.inj (Tryz.func3.symm.trans hfn)).symm
  refine ⟨by kernel_rfl, fun j t ht => ?_⟩
  rw [Tryz.params3] at ht
  have hm := Array.mem_of_getElem? ht
  simp at hm
  rcases hm with rfl
  all_goals first | exact (show Tryz.prog.wantsStandIn _ = false by kernel_rfl)

theorem cardUpto : Rows.SeekQuotedUptoCardSaid :=
  Claim7.holds_tied_plain_at .later [] _ _ _ _ saidUpto (fun _ h => by cases h) (by kernel_rfl) (fun _ h => by cases h) seekQuotedUpto_row_tie rfl ⟨rfl, rfl⟩ (by kernel_rfl) rfl plain (by kernel_rfl)
end Go.Proofs.YtffolokaijdbfaaGreatDoor.seekQuoted

namespace Go.Proofs.YtffolokaijdbfaaGreatDoor
/-- SeekQuoted, as its card states it for what is of bounded bulk. -/
theorem seekQuoted_card : Rows.SeekQuotedUptoCardSaid := seekQuoted.cardUpto
#print axioms seekQuoted_card
end Go.Proofs.YtffolokaijdbfaaGreatDoor
