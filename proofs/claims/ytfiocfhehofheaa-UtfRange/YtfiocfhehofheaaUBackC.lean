/- Contracts for UtfBack: lasting, join with nothing, a rune as a text, a text as runes. -/
import Derived.Test.YtfiocfhehofheaaUBackM
import Derived.Test.YtfiocfhehofheaaUTl
import Derived.Test.YtfiocfhehofheaaUJoin
import Derived.Test.YtfiocfhehofheaaUAwake
import Derived.Laws.AppendOwnNone
import Derived.Laws.IdiomStrings
namespace Go.Proofs.Ytfiocfhehofheaa
open Go.RowKit Go.Shelf
set_option linter.unusedVariables false

theorem encode_eqB (z : Int) : Utf8.encode z = ⟨(Lib.encodeRune z).toArray⟩ := by
  unfold Utf8.encode Lib.encodeRune
  have hv : Utf8.valid z = mayB z := by
    unfold Utf8.valid mayB
    rw [Bool.eq_iff_iff]
    simp only [Bool.or_eq_true, Bool.and_eq_true, decide_eq_true_eq]
    omega
  rw [hv]
  cases hm : mayB z with
  | false =>
    have h : z < 0 ∨ (55296 ≤ z ∧ z ≤ 57343) ∨ 1114111 < z := by
      have := mt (mayB_iff (n := z)).2 (by rw [hm]; simp)
      omega
    rw [Lib.encodeRuneZ_bad h]
    simp only [Bool.false_eq_true, if_false, Utf8.runeError]
    rfl
  | true =>
    have h := mayB_iff.1 hm
    simp only [if_true]
    obtain ⟨n, rfl⟩ : ∃ n : Nat, z = (n : Int) := ⟨z.toNat, by omega⟩
    rw [Int.toNat_natCast]
    by_cases h1 : n < 128
    · rw [Lib.encodeRuneZ_one (by omega) (by omega), if_pos h1]; rfl
    · rw [if_neg h1]
      by_cases h2 : n < 2048
      · rw [Lib.encodeRuneZ_two (by omega) (by omega), if_pos h2]; rfl
      · rw [if_neg h2]
        by_cases h3 : n < 65536
        · rw [Lib.encodeRuneZ_three (by omega), if_pos h3]; rfl
        · rw [Lib.encodeRuneZ_four (by omega) (by omega), if_neg h3]; rfl

theorem runesBytes_eqB (zs : List Int) : runesBytes zs = ⟨(encL' zs).toArray⟩ := by
  have key : ∀ (zs : List Int) (l : List UInt8), zs.foldl (fun r n => r ++ Utf8.encode n) (⟨l.toArray⟩ : ByteArray) = ⟨(l ++ encL' zs).toArray⟩ := by
    intro zs
    induction zs with
    | nil => intro l; simp [encL']
    | cons z zs ih =>
      intro l
      rw [List.foldl_cons, encode_eqB, ByteArray.mk_append_mk, ih]
      congr 2
      unfold encL'
      rw [List.flatMap_cons, List.append_assoc]
  have := key zs []
  rw [List.nil_append] at this
  exact this

theorem lasting_any (n : Int) (w : World) (h1 : -2147483648 ≤ n) (h2 : n ≤ 2147483647) : Calls Try.prog 19 #[.int .i32 n] w fun e w' => e = .returned (.bool (mayB n)) ∧ w' = w := by
  by_cases a1 : 0 ≤ n
  · by_cases a2 : n ≤ 1114111
    · by_cases a3 : n < 55296
      · rw [mayB_iff.2 ⟨a1, a2, .inl a3⟩]
        go_enter Try.func19, Try.ntmps19
        go_wp2
        go_ret
        exact ⟨rfl, rfl⟩
      · have a3' : 55296 ≤ n := by omega
        by_cases a4 : 57343 < n
        · rw [mayB_iff.2 ⟨a1, a2, .inr a4⟩]
          go_enter Try.func19, Try.ntmps19
          go_wp2
          go_ret
          exact ⟨rfl, rfl⟩
        · have hm : mayB n = false := by unfold mayB; exact decide_eq_false (by omega)
          have a4' : n ≤ 57343 := by omega
          rw [hm]; clear hm
          go_enter Try.func19, Try.ntmps19
          go_wp2
          go_ret
          exact ⟨rfl, rfl⟩
    · have hm : mayB n = false := by unfold mayB; exact decide_eq_false (by omega)
      have a2' : 1114111 < n := by omega
      rw [hm]; clear hm
      go_enter Try.func19, Try.ntmps19
      go_wp2
      go_ret
      exact ⟨rfl, rfl⟩
  · have hm : mayB n = false := by unfold mayB; exact decide_eq_false (by omega)
    have a1' : n < 0 := by omega
    rw [hm]; clear hm
    go_enter Try.func19, Try.ntmps19
    go_wp2
    go_ret
    exact ⟨rfl, rfl⟩


theorem encodeB (a : Option Addr) (n cap : Nat) (zs : List Int) (hn : zs.length = n) (w : World) (h : SlU w a zs) :
    Calls Try.prog 20 #[.slice a n cap] w fun e w' => e = .returned (.string ⟨(encL' zs).toArray⟩) ∧ w' = w := by
  subst hn
  have := encode_any a cap zs w h
  rw [runesBytes_eqB] at this
  exact this
theorem sluB {W : World} {base n : Nat} {v : Value} {zs : List Int} (h : W.ownsRow base 21 1 v n (zs.map R32)) (hn : zs.length = n) : ∃ a cap, v = .slice a n cap ∧ SlU W a zs := by
  subst hn; exact slu_of_owns h
set_option maxHeartbeats 400000 in
theorem joinN_any (a : Option Addr) (cx : Nat) (xs : List Int) (n : Nat) (hn : xs.length = n) (w : World) (hx : SlU w a xs) (hc : a = none → cx = 0) (hl : xs.length ≤ 35184372088832) :
    Calls Try.prog 21 #[.slice a n cx, .slice none 0 0] w fun e w' => (∃ a', (∃ cap, e = .returned (.slice a' n cap)) ∧ SlU w' a' xs) ∧ Below w.heap.size w w' := by
  subst hn
  obtain ⟨i0, hi, hz0, hz1, hz2⟩ := info_parts Try.info32
  cases a with
  | none =>
    have h0 : xs = [] := by
      rcases hx with h | ⟨b, off, h, _⟩
      · exact h
      · cases h
    subst h0
    have hc0 := hc rfl
    subst hc0
    go_enter Try.func21, Try.ntmps21
    go_wp2_with (at_builtin; refine wpList_append_own_none rfl _ _ 32 rfl w.heap.size 21 i0 1 Try.underlying32 hi (.slice none 0 0) 0 [] rfl (World.ownsRow_nil _ _ _ _) rfl ?_)
    go_ret
    exact ⟨⟨none, ⟨0, rfl⟩, .inl rfl⟩, Below.refl _ _⟩
  | some ax =>
    have hcx := slu_cells hx
    have HCX := hide hcx
    have ox := one_R32 xs
    have OX := hide ox
    have lx : (xs.map R32).length = xs.length * 1 := by simp
    have LX := hide lx
    have HL := hide (rfl : xs.length = xs.length)
    clear hcx hx ox lx hc
    obtain ⟨n, hn⟩ : ∃ n, xs.length = n := ⟨_, rfl⟩
    have HN := hide hn
    rw [hn] at LX hl ⊢
    clear hn HL
    have N1 := hide trivial
    go_enter Try.func21, Try.ntmps21
    go_wp2_with (first | (at_builtin; clear N1; refine wpList_append_own _ rfl _ _ 32 rfl w.heap.size 21 i0 (.int .i32 0) 1 4 Try.underlying32 hi hz0 hz1 hz2 rfl (by omega) (.slice none 0 0) 0 [] rfl (World.ownsRow_nil _ _ _ _) ax n cx (xs.map R32) rfl LX.out HCX.out OX.out (by unfold maxLen; omega) (by omega) (Nat.le_refl _) ?_; intro v1 w1 ho1 hg1 _) | (at_builtin; refine wpList_append_own_none rfl _ _ 32 rfl w.heap.size 21 i0 1 Try.underlying32 hi v1 (0 + n) _ rfl ho1 rfl ?_))
    go_ret
    rw [Nat.zero_add, List.nil_append] at ho1
    obtain ⟨a', cap, rfl, hs⟩ := sluB ho1 HN.out
    exact ⟨⟨a', ⟨cap, rfl⟩, hs⟩, (Below.refl _ w).grown hg1 (Nat.le_refl _) (fun k e => by cases e)⟩
theorem runesFrom_eq (s : ByteArray) : ∀ (f i : Nat) (acc : Array Value), i ≤ s.size → s.size ≤ i + f → Conv.runesFrom s f i acc = acc ++ (((Cs i ((bl s).drop i)).map (fun e => (e.2.1 : Int))).map R32).toArray := by
  intro f
  induction f with
  | zero =>
    intro i acc hi hf
    have : (bl s).drop i = [] := List.drop_eq_nil_of_le (by rw [bl_len]; omega)
    rw [this]
    simp [Conv.runesFrom, Cs_nil]
  | succ f ih =>
    intro i acc hi hf
    unfold Conv.runesFrom
    by_cases h : i < s.size
    · rw [if_pos h, decode_eq s i h]
      have hne : (bl s).drop i ≠ [] := fun e => by
        have := congrArg List.length e
        rw [List.length_drop, bl_len, List.length_nil] at this
        omega
      have hc := cw_len _ hne
      have hp := cw_pos ((bl s).drop i)
      rw [List.length_drop, bl_len] at hc
      simp only
      change Conv.runesFrom s f (i + cw ((bl s).drop i)) (acc.push (.int .i32 (Int.ofNat (rune ((bl s).drop i))))) = _
      rw [ih _ _ (by omega) (by omega), Cs_cons i _ hne, List.drop_drop]
      simp [R32]
    · rw [if_neg h]
      have : (bl s).drop i = [] := List.drop_eq_nil_of_le (by rw [bl_len]; omega)
      rw [this]
      simp [Cs_nil]
theorem run_runesB (s : ByteArray) (w : World) (hs : s.size ≤ 1048576) : ∃ c, (convert 9 32 (.string s)).run Try.prog w = .ok (.slice (some ⟨w.heap.size, 0, none⟩) (runesZ (bl s)).length c) (w.drew.alloc (.cells (((runesZ (bl s)).map R32).toArray ++ Array.replicate (c - (runesZ (bl s)).length) (.int .i32 0)) 21)) := by
  have h := runesFrom_eq s s.size 0 #[] (Nat.zero_le _) (by omega)
  rw [List.drop_zero, Array.empty_append] at h
  change Conv.runesFrom s s.size 0 #[] = ((runesZ (bl s)).map R32).toArray at h
  have hsz : (Conv.runesFrom s s.size 0 #[]).size = (runesZ (bl s)).length := by rw [h]; simp
  have hle : (runesZ (bl s)).length ≤ s.size := by rw [runesZ_len]; have := Cs_len_le (bl s); rw [bl_len] at this; exact this
  have := run_runes_of_string (P := Try.prog) w 9 32 21 s Try.underlying9 Try.underlying32 Try.underlying21 (by omega)
  rw [hsz, h] at this
  exact ⟨_, this⟩
theorem slu_new (w : World) (zs : List Int) (c : Nat) : SlU (w.alloc (.cells ((zs.map R32).toArray ++ Array.replicate c (.int .i32 0)) 21)) (some ⟨w.heap.size, 0, none⟩) zs := by
  refine .inr ⟨w.heap.size, 0, rfl, by simp, fun i x hx => ?_⟩
  have h := heap_alloc_new w (.cells ((zs.map R32).toArray ++ Array.replicate c (.int .i32 0)) 21)
  simp only [World.cell?, h, Nat.zero_add]
  have hi := (List.getElem?_eq_some_iff.1 hx).1
  rw [Array.getElem?_append_left (by simpa using hi)]
  simp [hx, R32]
end Go.Proofs.Ytfiocfhehofheaa
