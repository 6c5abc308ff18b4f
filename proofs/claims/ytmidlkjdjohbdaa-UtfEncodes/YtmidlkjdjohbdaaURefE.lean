/- What the document's Encode, Mend and Last answer. -/
import Derived.Test.YtmidlkjdjohbdaaURefR
import Derived.Test.YtmidlkjdjohbdaaURefC
import Derived.Test.YtmidlkjdjohbdaaUMend
namespace Go.Proofs.Ytmidlkjdjohbdaa
open Go.RowKit
set_option linter.unusedVariables false

/-- The bytes of runes, one behind the other. -/
def encV (zs : List Int) : List UInt8 := zs.flatMap Lib.encodeRune
theorem encV_snoc (zs : List Int) (z : Int) : encV (zs ++ [z]) = encV zs ++ Lib.encodeRune z := by unfold encV; simp
theorem encodeRune_len (z : Int) : 1 ≤ (Lib.encodeRune z).length ∧ (Lib.encodeRune z).length ≤ 4 := by
  have := Lib.runeCells_le z
  rw [Lib.runeCells_length] at this
  exact this
theorem encV_len (zs : List Int) : (encV zs).length ≤ 4 * zs.length := by
  induction zs with
  | nil => simp [encV]
  | cons z zs ih =>
    have := encodeRune_len z
    unfold encV at *
    rw [List.flatMap_cons, List.length_append, List.length_cons]
    omega

/-- What is no rune that may be counts as FFFD. -/
def mayZ (z : Int) : Int := if mayB z = true then z else 65533
theorem mayZ_may (z : Int) : 0 ≤ mayZ z ∧ mayZ z ≤ 1114111 := by
  unfold mayZ
  split
  · rename_i h; have := mayB_iff.1 h; omega
  · omega
theorem encode_seq (z : Int) : Lib.runeCells z = (seqV (mayZ z).toNat).map B8 := by
  unfold Lib.runeCells mayZ
  cases hm : mayB z with
  | false =>
    have h : z < 0 ∨ (55296 ≤ z ∧ z ≤ 57343) ∨ 1114111 < z := by
      have := mt (mayB_iff (n := z)).2 (by rw [hm]; simp)
      omega
    rw [Lib.encodeRuneZ_bad h, if_neg (by simp)]
    have : seqV (65533 : Int).toNat = [239, 191, 189] := by decide
    rw [this]
    rfl
  | true =>
    have h := mayB_iff.1 hm
    simp only [if_true]
    obtain ⟨n, rfl⟩ : ∃ n : Nat, z = (n : Int) := ⟨z.toNat, by omega⟩
    rw [Int.toNat_natCast]
    by_cases h1 : n < 128
    · rw [Lib.encodeRuneZ_one (by omega) (by omega)]
      have : seqV n = [n] := by unfold seqV; rw [if_pos h1]
      rw [this]; rfl
    · by_cases h2 : n < 2048
      · rw [Lib.encodeRuneZ_two (by omega) (by omega)]
        have : seqV n = [192 + n / 64, 128 + n % 64] := by unfold seqV; rw [if_neg h1, if_pos h2]
        rw [this]; rfl
      · by_cases h3 : n < 65536
        · rw [Lib.encodeRuneZ_three (by omega)]
          have : seqV n = [224 + n / 4096, 128 + n / 64 % 64, 128 + n % 64] := by unfold seqV; rw [if_neg h1, if_neg h2, if_pos h3]
          rw [this]; rfl
        · rw [Lib.encodeRuneZ_four (by omega) (by omega)]
          have : seqV n = [240 + n / 262144, 128 + n / 4096 % 64, 128 + n / 64 % 64, 128 + n % 64] := by unfold seqV; rw [if_neg h1, if_neg h2, if_neg h3]
          rw [this]; rfl

theorem addr_add (g j : Nat) : (⟨g, 0, none⟩ : Addr).add j = ⟨g, j, none⟩ := by
  simp [Addr.add]
  intro h; exact h.symm
theorem Try.info8 : (Try.prog.info? 5).map (fun i => (i.zero, i.size, i.bytes)) = some (some (.int .u8 0), 1, 1) := by kernel_rfl
/-- 'string(out)' of a row of the call's own. -/
theorem run_string_own (w : World) (base : Nat) (v : Value) (l : List UInt8) (h : w.ownsRow base 5 1 v l.length (Lib.byteCells l)) : (convert 48 9 v).run Try.prog w = .ok (.string ⟨l.toArray⟩) w := by
  rcases h.2 with ⟨rfl, h0⟩ | ⟨g, cap, cur, rfl, _, hg, hn, _, hs, hc⟩
  · have hl : l = [] := List.eq_nil_of_length_eq_zero h0
    subst hl
    rw [run_convert_bytes_string w 48 9 5 none 0 0 Try.underlying48 Try.underlying5 Try.underlying9]
    rfl
  · refine run_convert_bytes_back (P := Try.prog) w 48 9 5 ⟨g, 0, none⟩ cap l Try.underlying48 Try.underlying5 Try.underlying9 (fun j hj => ?_)
    have h1 : (Lib.byteCells l)[j]? = some (.int .u8 (l[j].toNat : Int)) := by unfold Lib.byteCells; rw [List.getElem?_map, List.getElem?_eq_getElem hj]; rfl
    rw [← hc, List.getElem?_take, if_pos (by omega)] at h1
    rw [addr_add g j]
    simp only [World.cell?, hg]
    simpa using h1

set_option maxHeartbeats 1000000 in
theorem refEncode_any (a : Option Addr) (cap : Nat) (zs : List Int) (w : World) (h : SlU w a zs) (hz : ∀ z ∈ zs, -2147483648 ≤ z ∧ z ≤ 2147483647) (hs : zs.length ≤ 35184372088831) :
    Calls Try.prog 24 #[.slice a zs.length cap] w fun e w' => e = .returned (.string ⟨(encV zs).toArray⟩) ∧ Below w.heap.size w w' := by
  obtain ⟨i0, hi, hz0, hz1, hz2⟩ := info_parts Try.info8
  have HZ := hide hz
  have HS := hide h
  clear hz h
  generalize hm : zs.length = m at *
  have HM := hide hm
  clear hm
  go_enter Try.func24, Try.ntmps24
  go_wp2
  go_loopw [3, 4] (fun v q wr => ∃ (k : Nat), k ≤ m ∧ q = .int .i64 k ∧ wr.ownsRow w.heap.size 5 1 v (encV (zs.take k)).length (Lib.byteCells (encV (zs.take k))) ∧ Below w.heap.size w wr) (fun _ q _ => m - (intOf q).toNat)
  case atStart => exact ⟨0, by omega, rfl, World.ownsRow_nil _ _ _ _, Below.refl _ _⟩
  case round =>
    obtain ⟨k, hk, rfl, hown, hB⟩ := hrel
    by_cases hlt : k < m
    · have hlt' : (k : Int) < (m : Int) := by omega
      obtain ⟨z, hzk⟩ : ∃ z, zs[k]? = some z := ⟨_, List.getElem?_eq_getElem (by rw [HM.out]; exact hlt)⟩
      obtain ⟨b, off, rfl, hcell⟩ : ∃ b off, a = some ⟨b, off, none⟩ ∧ wr.cell? ⟨b, off + k, none⟩ = some (.int .i32 z) := by
        rcases HS.out with h | ⟨b, off, ha, hlb, hh⟩
        · rw [h] at hzk; simp at hzk
        · exact ⟨b, off, ha, (hB.cell (p := ⟨b, off + k, none⟩) hlb).trans (hh k z hzk)⟩
      obtain ⟨hz1', hz2'⟩ := HZ.out z (List.mem_of_getElem? hzk)
      have hmz := mayZ_may z
      have hseq := encode_seq z
      have hel := encodeRune_len z
      have hlen := encV_len (zs.take k)
      rw [List.length_take] at hlen
      have hbc := Lib.byteCells_encodeRune z
      have htk : encV (zs.take (k + 1)) = encV (zs.take k) ++ Lib.encodeRune z := by rw [List.take_add_one, hzk]; simp only [Option.toList_some]; rw [encV_snoc]
      have hsl : (seqV (mayZ z).toNat).length = (Lib.encodeRune z).length := by have := congrArg List.length hseq; rw [List.length_map, Lib.runeCells_length] at this; exact this.symm
      obtain ⟨n, hn⟩ : ∃ n : Nat, mayZ z = (n : Int) := ⟨(mayZ z).toNat, by omega⟩
      have ks := fun w => seq_any n w (by omega)
      have km := fun w => may_any z w hz1' hz2'
      rw [hn, Int.toNat_natCast] at hseq hsl
      have hcells : ∀ (W : World) j u, ((seqV n).map B8)[j]? = some u → (W.alloc (.cells ((seqV n).map B8).toArray 5)).cell? ((⟨W.heap.size, 0, none⟩ : Addr).add j) = some u := fun W j u hj => by
        rw [addr_add W.heap.size j, World.cell?_alloc_mark W ((seqV n).map B8).toArray 5 (0, 0) j]
        simpa using hj
      rw [← hseq] at hcells ks
      rw [hsl] at ks
      have hone : ∀ u ∈ Lib.runeCells z, u.oneCell' = true := by
        intro u hu
        rw [hseq] at hu
        obtain ⟨x, _, rfl⟩ := List.mem_map.1 hu
        rfl
      have hrl := Lib.runeCells_length z
      have hmay : (mayB z = true ∧ z = (n : Int)) ∨ (mayB z = false ∧ n = 65533) := by
        cases hb : mayB z with
        | true => exact .inl ⟨rfl, by rw [← hn]; unfold mayZ; rw [if_pos hb]⟩
        | false => exact .inr ⟨rfl, by have := hn; unfold mayZ at this; rw [if_neg (by rw [hb]; simp)] at this; omega⟩
      generalize hQ : Lib.runeCells z = Q at *
      generalize hE : Lib.encodeRune z = E at *
      generalize hen : E.length = en at *
      have HB := hide hB
      have HTK := hide htk
      have HBC := hide hbc
      have HCE := hide hcells
      have HON := hide hone
      have HQL := hide hrl
      have HEN := hide hen
      have KS := hide ks
      have KM := hide km
      have hsz := hB.size
      clear hB htk hbc hcells hone hrl ks km hseq hsl hn hmz hzk hQ hE hen
      generalize hA : encV (zs.take k) = A at *
      have hAl : A.length + en ≤ 140737488355328 := by omega
      have HA := hide hA
      clear hA
      have arms : True := trivial
      rcases hmay with ⟨hb, rfl⟩ | ⟨hb, rfl⟩
      · rw [hb] at KM
        clear hb
        go_wp2_with (first | (go_at_call 33; refine (KM.out _).mono ?_; rintro e w1 ⟨rfl, rfl⟩) | (go_at_call 35; refine (KS.out _).mono ?_; rintro e w2 ⟨rfl, rfl⟩) | (at_builtin; refine wpList_append_own _ rfl _ _ 48 rfl w.heap.size 5 i0 (.int .u8 0) 1 1 Try.underlying48 hi hz0 hz1 hz2 rfl (by omega) _ _ _ rfl (hown.alloc _) ⟨_, 0, none⟩ en en Q rfl (by rw [HQL.out]; omega) (HCE.out _) HON.out (by unfold maxLen; omega) (by omega) (by simp; omega) ?_; intro v' w3 hown' hgrow _))
        go_roundw
        case rel =>
          refine ⟨k + 1, by omega, by go_num, ?_, ?_⟩
          · rw [HTK.out, Lib.byteCells_append, HBC.out, List.length_append, HEN.out]
            exact hown'
          · exact (HB.out.alloc HB.out.size _).grown hgrow (by simp; omega) (fun j e => (hown.lt j e).1)
        case measure => simp [intOf]; omega
      · rw [hb] at KM
        clear hb
        go_wp2_with (first | (go_at_call 33; refine (KM.out _).mono ?_; rintro e w1 ⟨rfl, rfl⟩) | (go_at_call 35; refine (KS.out _).mono ?_; rintro e w2 ⟨rfl, rfl⟩) | (at_builtin; refine wpList_append_own _ rfl _ _ 48 rfl w.heap.size 5 i0 (.int .u8 0) 1 1 Try.underlying48 hi hz0 hz1 hz2 rfl (by omega) _ _ _ rfl (hown.alloc _) ⟨_, 0, none⟩ en en Q rfl (by rw [HQL.out]; omega) (HCE.out _) HON.out (by unfold maxLen; omega) (by omega) (by simp; omega) ?_; intro v' w3 hown' hgrow _))
        go_roundw
        case rel =>
          refine ⟨k + 1, by omega, by go_num, ?_, ?_⟩
          · rw [HTK.out, Lib.byteCells_append, HBC.out, List.length_append, HEN.out]
            exact hown'
          · exact (HB.out.alloc HB.out.size _).grown hgrow (by simp; omega) (fun j e => (hown.lt j e).1)
        case measure => simp [intOf]; omega
    · have hkm : k = m := by omega
      subst hkm
      rw [List.take_of_length_le (by rw [HM.out]; exact Nat.le_refl _)] at hown
      have hcv := run_string_own wr w.heap.size _ _ hown
      have HB := hide hB
      clear hB hown
      go_wp2
      go_ret
      exact ⟨rfl, HB.out⟩

theorem runesZ_bound (l : List UInt8) : ∀ z ∈ runesZ l, -2147483648 ≤ z ∧ z ≤ 2147483647 := by
  intro z hz
  unfold runesZ at hz
  obtain ⟨e, he, rfl⟩ := List.mem_map.1 hz
  have := Cs_mem l 0 e he
  have hr := rune_le (l.drop (e.1 - 0))
  rw [← this.2.2.2.2.1] at hr
  omega

theorem refMend_any (s : ByteArray) (w : World) (hs : s.size ≤ 1048576) :
    Calls Try.prog 21 #[.string s] w fun e w' => e = .returned (.string ⟨(mendV (bl s)).toArray⟩) ∧ Below w.heap.size w w' := by
  have kr := fun w => refRunes_any s w hs
  have hcl := Cs_len_le (bl s)
  rw [bl_len] at hcl
  have ke := fun (w : World) (a : Option Addr) (cap : Nat) (h : SlU w a (runesZ (bl s))) => refEncode_any a cap (runesZ (bl s)) w h (runesZ_bound _) (by rw [runesZ_len]; omega)
  rw [runesZ_len] at ke
  have e0 : encV (runesZ (bl s)) = mendV (bl s) := rfl
  rw [e0] at ke
  generalize (Cs 0 (bl s)).length = m at *
  generalize mendV (bl s) = M at *
  have KR := hide kr
  have KE := hide ke
  clear kr ke e0
  go_enter Try.func21, Try.ntmps21
  go_wp2_with (first | (go_at_call 17; refine (KR.out _).mono ?_; rintro e w1 ⟨a, cap, rfl, hsl, hB1⟩) | (go_at_call 24; refine (KE.out _ _ _ hsl).mono ?_; rintro e w2 ⟨rfl, hB2⟩))
  go_ret
  exact ⟨rfl, bseq hB1 hB2⟩

theorem last_of (l : List UInt8) (hl : l ≠ []) : ∃ e, (Cs 0 l)[(Cs 0 l).length - 1]? = some e ∧ 0 < (Cs 0 l).length ∧ lastV l = ((e.2.1 : Int), (e.2.2 : Int), rightE e) := by
  obtain ⟨hst, hend, _⟩ := last_iff l hl
  obtain ⟨f, hf, hf1⟩ := hst
  obtain ⟨j, hj⟩ := List.getElem?_of_mem hf
  have hjl := (List.getElem?_eq_some_iff.1 hj).1
  have hfl := Cs_lt hj
  have hjm : j = (Cs 0 l).length - 1 := by
    by_cases h : j < (Cs 0 l).length - 1
    · exfalso
      obtain ⟨e, he⟩ : ∃ e, (Cs 0 l)[(Cs 0 l).length - 1]? = some e := ⟨_, List.getElem?_eq_getElem (by omega)⟩
      have h1 := Cs_two hj he h
      have h2 := Cs_lt he
      rw [hf1] at h1 hfl
      rw [← hfl.2.2.2.2.2] at hend
      omega
    · omega
  refine ⟨f, by rw [← hjm]; exact hj, by omega, ?_⟩
  unfold lastV
  rw [if_neg hl, firstV_ne (drop_ne (by have := hfl.1; rw [hf1] at this; exact this))]
  have h5 := hfl.2.2.2.2.1
  have h6 := hfl.2.2.2.2.2
  have hre : rightE f = decide (W (l.drop f.1) ≠ 0) := by
    have : f = (f.1, rune (l.drop f.1), cw (l.drop f.1)) := by rw [← h5, ← h6]
    conv => lhs; rw [this]
    exact rightE_at _ _
  rw [hre, h5, h6, hf1]

set_option maxRecDepth 100000 in
set_option maxHeartbeats 1000000 in
theorem refLast_any (s : ByteArray) (w : World) (hs : s.size ≤ 1048576) :
    Calls Try.prog 12 #[.string s] w fun e w' => e = .returned (.tuple #[.int .i32 (lastV (bl s)).1, .int .i64 (lastV (bl s)).2.1, .bool (lastV (bl s)).2.2]) ∧ Below w.heap.size w w' := by
  have kc := fun w => chars_any s w hs
  have hcl := Cs_len_le (bl s)
  rw [bl_len] at hcl
  by_cases h0 : s.size = 0
  · have hb : bl s = [] := bl_nil h0
    rw [hb] at kc ⊢
    have KC := hide kc
    clear kc
    show Calls Try.prog 12 #[.string s] w fun e w' => e = .returned (.tuple #[.int .i32 0, .int .i64 0, .bool false]) ∧ Below w.heap.size w w'
    have KC2 : Hid (∀ w, Calls Try.prog 26 #[.string s] w fun e w' => ∃ a cap, e = .returned (.slice a 0 cap) ∧ SlC w' a [] ∧ Below w.heap.size w w') := KC.out
    clear KC hb
    go_enter Try.func12, Try.ntmps12
    go_wp2_with (go_at_call 26; refine (KC2.out _).mono ?_; rintro e w1 ⟨a, cap, rfl, hsl, hB⟩)
    go_ret3
    exact ⟨rfl, hB⟩
  · obtain ⟨c, hc, hpos, hv⟩ := last_of (bl s) (bl_ne (by omega))
    rw [hv]
    have hcell : ∀ w a, SlC w a (Cs 0 (bl s)) → ∃ b, a = some ⟨b, 0, none⟩ ∧ w.cell? ⟨b, ((Cs 0 (bl s)).length - 1) * 4, none⟩ = some (.int .i64 (c.1 : Int)) ∧ w.cell? ⟨b, ((Cs 0 (bl s)).length - 1) * 4 + 1, none⟩ = some (.int .i32 (c.2.1 : Int)) ∧ w.cell? ⟨b, ((Cs 0 (bl s)).length - 1) * 4 + 2, none⟩ = some (.int .i64 (c.2.2 : Int)) ∧ w.cell? ⟨b, ((Cs 0 (bl s)).length - 1) * 4 + 3, none⟩ = some (.bool (rightE c)) := by
      intro w a h
      rcases h with h | ⟨b, ha, _, hh⟩
      · rw [h] at hpos; simp at hpos
      · exact ⟨b, ha, hh _ c hc⟩
    generalize Cs 0 (bl s) = L at *
    generalize hm : L.length = m at *
    obtain ⟨m, rfl⟩ : ∃ k, m = k + 1 := ⟨m - 1, by omega⟩
    have hb : (((m + 1 : Nat) : Int) == 0) = false := by simp; omega
    have e1 : ((m + 1 : Nat) : Int) - 1 = (m : Int) := by omega
    rw [Nat.add_sub_cancel] at hcell
    have KC := hide kc
    have HCELL := hide hcell
    clear kc hc hcell hm hv
    generalize rightE c = g at *
    obtain ⟨c1, c2, c3⟩ := c
    go_enter Try.func12, Try.ntmps12
    go_wp2_with (go_at_call 26; refine (KC.out _).mono ?_; rintro e w1 ⟨a, cap, rfl, hsl, hB⟩; obtain ⟨b, rfl, q1, q2, q3, q4⟩ := HCELL.out _ _ hsl)
    go_quiet (fail)
    go_wp2
    go_ret3
    exact ⟨rfl, below_drewN (hB.alloc hB.size _) _⟩
end Go.Proofs.Ytmidlkjdjohbdaa
