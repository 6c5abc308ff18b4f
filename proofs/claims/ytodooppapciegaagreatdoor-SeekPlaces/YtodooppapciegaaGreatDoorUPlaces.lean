/- What utf.At, Of, opener, Last and Begins answer, of every text and number. -/
import Derived.Test.YtodooppapciegaaGreatDoorUFirst
namespace Go.Proofs.YtodooppapciegaaGreatDoor
open Go.RowKit
set_option linter.unusedVariables false

/-- So far a walk over a text's characters has come: k of them are through, the next one begins at pos. -/
def Inv (l : List UInt8) (pos k : Nat) : Prop := (Cs 0 l).drop k = Cs pos (l.drop pos) ∧ k ≤ (Cs 0 l).length ∧ pos ≤ l.length ∧ k ≤ pos
theorem Inv.start (l : List UInt8) : Inv l 0 0 := ⟨by simp, by omega, by omega, by omega⟩
theorem drop_ne {l : List UInt8} {pos : Nat} (h : pos < l.length) : l.drop pos ≠ [] := fun e => by
  have := congrArg List.length e; rw [List.length_drop] at this; simp at this; omega
theorem Inv.here {l : List UInt8} {pos k : Nat} (h : Inv l pos k) (hp : pos < l.length) : (Cs 0 l)[k]? = some (pos, rune (l.drop pos), cw (l.drop pos)) := by
  have := h.1
  rw [Cs_cons _ _ (drop_ne hp)] at this
  have h0 : ((Cs 0 l).drop k)[0]? = some (pos, rune (l.drop pos), cw (l.drop pos)) := by rw [this]; rfl
  rw [List.getElem?_drop, Nat.add_zero] at h0
  exact h0
theorem Inv.step {l : List UInt8} {pos k : Nat} (h : Inv l pos k) (hp : pos < l.length) : Inv l (pos + cw (l.drop pos)) (k + 1) := by
  have h1 := h.1
  rw [Cs_cons _ _ (drop_ne hp)] at h1
  have h2 := cw_len _ (drop_ne hp)
  rw [List.length_drop] at h2
  have h3 := cw_pos (l.drop pos)
  have h4 := (List.getElem?_eq_some_iff.1 (h.here hp)).1
  refine ⟨?_, h4, by omega, by have := h.2.2.2; omega⟩
  rw [← List.drop_drop, h1, List.drop_one, List.tail_cons, List.drop_drop]
theorem Inv.fin {l : List UInt8} {pos k : Nat} (h : Inv l pos k) (hp : l.length ≤ pos) : k = (Cs 0 l).length := by
  have h1 := h.1
  rw [List.drop_eq_nil_of_le hp, Cs_nil, List.drop_eq_nil_iff] at h1
  exact Nat.le_antisymm h.2.1 h1
theorem Cs_len_le (l : List UInt8) : (Cs 0 l).length ≤ l.length := by
  have : ∀ a, (Cs a l).length ≤ l.length := by
    induction l using byChars with
    | h0 => intro a; simp [Cs_nil]
    | h1 l hl ih =>
      intro a
      have h1 := cw_pos l
      have h2 := cw_len l hl
      have := ih (a + cw l)
      rw [Cs_cons a l hl, List.length_cons]
      rw [List.length_drop] at this
      omega
  exact this 0

/-- Where the character of a number begins; behind the last one: the end. -/
def pl (l : List UInt8) (k : Nat) : Nat := match (Cs 0 l)[k]? with | some e => e.1 | none => l.length
def atV (l : List UInt8) (n : Int) : Int × Int := if 0 ≤ n ∧ n ≤ ((Cs 0 l).length : Int) then ((pl l n.toNat : Int), 0) else (0, 6)
/-- How many characters begin at a place or ahead of it. -/
def ofN (l : List UInt8) (i : Nat) : Nat := ((Cs 0 l).filter (fun e => decide (e.1 ≤ i))).length
def ofV (l : List UInt8) (i : Int) : Int × Int := if 0 ≤ i ∧ i ≤ (l.length : Int) then (if i = (l.length : Int) then (ofN l i.toNat : Int) else (ofN l i.toNat : Int) - 1, 0) else (0, 6)
def beginsV (l : List UInt8) (i : Int) : Bool := decide (0 ≤ i) && decide (i ≤ (l.length : Int)) && (decide (i = (l.length : Int)) || decide (op l i.toNat = i.toNat ∨ op l i.toNat + cw (l.drop (op l i.toNat)) ≤ i.toNat))

theorem pl_fin (l : List UInt8) : pl l (Cs 0 l).length = l.length := by unfold pl; rw [List.getElem?_eq_none (Nat.le_refl _)]
theorem pl_here {l : List UInt8} {pos k : Nat} (h : Inv l pos k) (hp : pos < l.length) : pl l k = pos := by unfold pl; rw [h.here hp]

theorem ret_two {a b c d : Int} (h : a = c) (k : b = d) : Ending.returned (.tuple #[.int .i64 a, .int .i64 b]) = .returned (.tuple #[.int .i64 c, .int .i64 d]) := by rw [h, k]

/-- Of the rest of a walk none begins that early. -/
theorem filter_none (l : List UInt8) (pos i : Nat) (h : i < pos) : (Cs pos l).filter (fun e => decide (e.1 ≤ i)) = [] := by
  rw [List.filter_eq_nil_iff]
  intro e he
  have := (Cs_mem l pos e he).1
  simp; omega

def coB (b : Nat) : Bool := decide (128 ≤ b ∧ b ≤ 191)
theorem follows_any (b : Nat) (w : World) : Calls Tryz.prog 58 #[.int .u8 b] w fun e w' => e = .returned (.bool (coB b)) ∧ w' = w := by
  by_cases h1 : (128 : Int) ≤ (b : Int)
  · by_cases h2 : (b : Int) ≤ 191
    · have h : coB b = true := decide_eq_true ⟨by omega, by omega⟩
      rw [h]; clear h
      go_enter Tryz.func58, Tryz.ntmps58
      go_wp2
      go_ret
      exact ⟨rfl, rfl⟩
    · have h : coB b = false := decide_eq_false fun h => by omega
      have h3 : (191 : Int) < (b : Int) := by omega
      rw [h]; clear h
      go_enter Tryz.func58, Tryz.ntmps58
      go_wp2
      go_ret
      exact ⟨rfl, rfl⟩
  · have h : coB b = false := decide_eq_false fun h => by omega
    have h3 : (b : Int) < 128 := by omega
    rw [h]; clear h
    go_enter Tryz.func58, Tryz.ntmps58
    go_wp2
    go_ret
    exact ⟨rfl, rfl⟩

set_option maxHeartbeats 400000 in
theorem opener_any (s : ByteArray) (i : Nat) (w : World) (hi : i < s.size) (hs : s.size ≤ 9223372036854775807) :
    Calls Tryz.prog 39 #[.string s, .int .i64 i] w fun e w' => e = .returned (.int .i64 (op (bl s) i : Nat)) ∧ w' = w := by
  go_enter Tryz.func39, Tryz.ntmps39
  go_wp2
  go_loop [5] (fun q => ∃ j k : Nat, j + k = 3 ∧ k ≤ i ∧ q = .int .i64 ((i - k : Nat) : Int) ∧ opF (bl s) j (i - k) = op (bl s) i) (fun q => (intOf q).toNat)
  case atStart => exact ⟨3, 0, rfl, by omega, by simp, rfl⟩
  case round =>
    obtain ⟨j, k, hjk, hk, rfl, ho⟩ := hrel
    generalize hm : i - k = m at *
    have hmi : m ≤ i := by omega
    have him : i ≤ m + 3 := by omega
    have hmk : m + k = i := by omega
    clear hm
    by_cases h0 : m = 0
    · subst h0
      have HO := hide ho
      clear ho
      go_wp2
      go_ret
      refine ⟨ret_int ?_, rfl⟩
      rw [← HO.out]
      cases j with
      | zero => rfl
      | succ j => simp [opF]
    · have h0' : (0 : Int) < (m : Int) := by omega
      by_cases h3 : k = 3
      · have h3' : (3 : Int) ≤ (i : Int) - (m : Int) := by omega
        have hj : j = 0 := by omega
        subst hj
        have HO := hide ho
        clear ho
        go_wp2
        go_ret
        exact ⟨ret_int (by rw [← HO.out]; rfl), rfl⟩
      · have h3' : (i : Int) - (m : Int) < 3 := by omega
        have hidx : (0 : Int) ≤ (m : Int) ∧ (m : Int) < (s.size : Int) := by omega
        obtain ⟨j', rfl⟩ : ∃ j', j = j' + 1 := ⟨j - 1, by omega⟩
        have hb := by'_get s m (by omega)
        have HB := hide hb
        have HO := hide ho
        clear hb ho
        by_cases hc : coB ((s[m]'(by omega)).toNat) = true
        · go_wp2_with (go_at_call 58; refine (follows_any _ _).mono ?_; rintro e w' ⟨rfl, rfl⟩)
          go_round
          case rel =>
            refine ⟨j', k + 1, by omega, by omega, int_congr (by omega), ?_⟩
            have h := HO.out
            unfold opF at h
            rw [if_pos ⟨by omega, by unfold bl; rw [HB.out]; exact of_decide_eq_true hc⟩] at h
            rw [← h]
            congr 1
            omega
          case measure => simp [intOf]; omega
        · have hc' : coB ((s[m]'(by omega)).toNat) = false := by simpa using hc
          go_wp2_with (go_at_call 58; refine (follows_any _ _).mono ?_; rintro e w' ⟨rfl, rfl⟩)
          go_ret
          refine ⟨ret_int ?_, rfl⟩
          rw [← HO.out]
          unfold opF
          rw [if_neg (fun h => of_decide_eq_false hc' (by have := h.2; unfold bl at this; rwa [HB.out] at this))]

theorem ret_three {a b c d : Int} {p q : Bool} (h : a = c) (k : b = d) (m : p = q) : Ending.returned (.tuple #[.int .i32 a, .int .i64 b, .bool p]) = .returned (.tuple #[.int .i32 c, .int .i64 d, .bool q]) := by rw [h, k, m]

/-- What Last answers. -/
def lastV (l : List UInt8) : Int × Int × Bool := if l = [] then (0, 0, false) else firstV (l.drop (lastAt l))

theorem firstV_ne {l : List UInt8} (h : l ≠ []) : firstV l = ((rune l : Int), (cw l : Int), decide (W l ≠ 0)) := by unfold firstV; rw [if_neg h]

theorem isEmpty_false {s : ByteArray} (h : 0 < s.size) : s.toList.isEmpty = false := by
  rw [ByteArray.toList_eq]
  have := bl_ne h
  unfold bl at this
  simpa using this
theorem isEmpty_true {s : ByteArray} (h : s.size = 0) : s.toList.isEmpty = true := by
  rw [ByteArray.toList_eq]
  have := bl_nil h
  unfold bl at this
  simpa using this

theorem last_none (s : ByteArray) (w : World) (h : s.size = 0) :
    Calls Tryz.prog 41 #[.string s] w fun e w' => e = .returned (.tuple #[.int .i32 0, .int .i64 0, .bool false]) ∧ w' = w := by
  have hb : s = { data := #[] } := by
    cases s with | mk d => simp [ByteArray.size] at h; rw [h]
  subst hb
  go_enter Tryz.func41, Tryz.ntmps41
  go_wp2
  go_ret3
  exact ⟨rfl, rfl⟩

set_option maxHeartbeats 400000 in
theorem last_some (s : ByteArray) (w : World) (h : 0 < s.size) (hs : s.size ≤ 9223372036854775807) :
    Calls Tryz.prog 41 #[.string s] w fun e w' => e = .returned (.tuple #[.int .i32 (lastV (bl s)).1, .int .i64 (lastV (bl s)).2.1, .bool (lastV (bl s)).2.2]) ∧ Below w.heap.size w w' := by
  have hne := isEmpty_false h
  have ho := op_le (bl s) (s.size - 1)
  have hop := fun w => opener_any s (s.size - 1) w (by omega) hs
  have hls := last_iff (bl s) (bl_ne h)
  have hv : lastV (bl s) = firstV ((bl s).drop (lastAt (bl s))) := by unfold lastV; rw [if_neg (bl_ne h)]
  have hla : lastAt (bl s) = if op (bl s) (s.size - 1) + cw ((bl s).drop (op (bl s) (s.size - 1))) = s.size then op (bl s) (s.size - 1) else s.size - 1 := by unfold lastAt; rw [bl_len]
  rw [bl_len] at hls
  generalize hf : op (bl s) (s.size - 1) = f at *
  have hfs : f < s.size := by omega
  have hfv : firstV ((bl s).drop f) = ((rune ((bl s).drop f) : Int), (cw ((bl s).drop f) : Int), decide (W ((bl s).drop f) ≠ 0)) := firstV_ne (bl_drop_ne hfs)
  have h4 := cw_le4 ((bl s).drop f)
  have hc2 := cw_len _ (bl_drop_ne hfs)
  rw [List.length_drop, bl_len] at hc2
  have hcall : ∀ w, Calls Tryz.prog 40 #[.string (s.extract f s.size)] w fun e w' => e = .returned (.tuple #[.int .i32 (rune ((bl s).drop f) : Nat), .int .i64 (cw ((bl s).drop f) : Nat), .bool (decide (W ((bl s).drop f) ≠ 0))]) ∧ Below w.heap.size w w' := by
    intro w
    have := first_any (s.extract f s.size) w (by rw [ByteArray.size_extract]; omega)
    rw [bl_from, hfv] at this
    exact this
  have hL := St_lt hls.1
  rw [bl_len] at hL
  have hres : lastV (bl s) = if f + cw ((bl s).drop f) = s.size then ((rune ((bl s).drop f) : Int), (cw ((bl s).drop f) : Int), decide (W ((bl s).drop f) ≠ 0)) else (65533, 1, false) := by
    rw [hv]
    by_cases hc : f + cw ((bl s).drop f) = s.size
    · rw [if_pos hc]; rw [if_pos hc] at hla; rw [hla, hfv]
    · rw [if_neg hc]
      have h0 := hls.2.2 hc
      rw [firstV_ne (bl_drop_ne hL), h0, cw_0 h0, rune_0 h0]
      rfl
  clear hls hv hla hfv hL
  generalize cw ((bl s).drop f) = c at *
  generalize rune ((bl s).drop f) = r at *
  generalize decide (W ((bl s).drop f) ≠ 0) = g at *
  rw [hres]
  clear hres hf ho
  have e1 : (s.size : Int) - 1 = ((s.size - 1 : Nat) : Int) := by omega
  have HC := hide hcall
  have HP := hide hop
  have E1 := hide e1
  clear hcall hop e1
  by_cases hc : f + c = s.size
  · rw [if_pos hc]
    have hb : ((f : Int) + (c : Int) == (s.size : Int)) = true := by simp; omega
    clear hc
    go_enter Tryz.func41, Tryz.ntmps41
    go_wp2_with (first | (go_at_call 39; rw [E1.out]; refine (HP.out _).mono ?_; rintro e w1 ⟨rfl, rfl⟩) | (go_at_call 40; refine (HC.out _).mono ?_; rintro e w2 ⟨rfl, hB⟩))
    go_ret3
    exact ⟨rfl, hB⟩
  · rw [if_neg hc]
    have hb : ((f : Int) + (c : Int) == (s.size : Int)) = false := by simp; omega
    clear hc
    go_enter Tryz.func41, Tryz.ntmps41
    go_wp2_with (first | (go_at_call 39; rw [E1.out]; refine (HP.out _).mono ?_; rintro e w1 ⟨rfl, rfl⟩) | (go_at_call 40; refine (HC.out _).mono ?_; rintro e w2 ⟨rfl, hB⟩))
    go_ret3
    exact ⟨rfl, hB⟩

theorem last_any (s : ByteArray) (w : World) (hs : s.size ≤ 9223372036854775807) :
    Calls Tryz.prog 41 #[.string s] w fun e w' => e = .returned (.tuple #[.int .i32 (lastV (bl s)).1, .int .i64 (lastV (bl s)).2.1, .bool (lastV (bl s)).2.2]) ∧ Below w.heap.size w w' := by
  by_cases h : s.size = 0
  · rw [bl_nil h]
    refine (last_none s w h).mono ?_
    rintro e w' ⟨rfl, rfl⟩
    exact ⟨rfl, Below.refl _ _⟩
  · exact last_some s w (by omega) hs

theorem begins_bad (s : ByteArray) (n : Int) (w : World) (hb : n < 0 ∨ (s.size : Int) < n) :
    Calls Tryz.prog 19 #[.string s, .int .i64 n] w fun e w' => e = .returned (.bool false) ∧ Below w.heap.size w w' := by
  by_cases h1 : n < 0
  · clear hb
    go_enter Tryz.func19, Tryz.ntmps19
    go_wp2
    go_ret
    exact ⟨rfl, Below.refl _ _⟩
  · have h2 : (s.size : Int) < n := by omega
    have h3 : 0 ≤ n := by omega
    clear hb
    go_enter Tryz.func19, Tryz.ntmps19
    go_wp2
    go_ret
    exact ⟨rfl, Below.refl _ _⟩
theorem begins_end (s : ByteArray) (w : World) (hs : s.size ≤ 9223372036854775807) :
    Calls Tryz.prog 19 #[.string s, .int .i64 s.size] w fun e w' => e = .returned (.bool true) ∧ Below w.heap.size w w' := by
  generalize hn : (s.size : Int) = n
  have h1 : 0 ≤ n := by omega
  have h2 : n ≤ (s.size : Int) := by omega
  have h3 : (n == (s.size : Int)) = true := by simp [hn]
  clear hn
  go_enter Tryz.func19, Tryz.ntmps19
  go_wp2
  go_ret
  exact ⟨rfl, Below.refl _ _⟩

set_option maxHeartbeats 400000 in
theorem begins_in (s : ByteArray) (n : Nat) (w : World) (hn : n < s.size) (hs : s.size ≤ 9223372036854775807) :
    Calls Tryz.prog 19 #[.string s, .int .i64 n] w fun e w' => e = .returned (.bool (decide (op (bl s) n = n ∨ op (bl s) n + cw ((bl s).drop (op (bl s) n)) ≤ n))) ∧ Below w.heap.size w w' := by
  have hz : (n : Int) ≤ (s.size : Int) := by omega
  have hz2 : ((n : Int) == (s.size : Int)) = false := by simp; omega
  have ho := op_le (bl s) n
  have hop := fun w => opener_any s n w hn hs
  generalize op (bl s) n = f at *
  have hfs : f < s.size := by omega
  have hfv : firstV ((bl s).drop f) = ((rune ((bl s).drop f) : Int), (cw ((bl s).drop f) : Int), decide (W ((bl s).drop f) ≠ 0)) := firstV_ne (bl_drop_ne hfs)
  have h4 := cw_le4 ((bl s).drop f)
  have hc2 := cw_len _ (bl_drop_ne hfs)
  rw [List.length_drop, bl_len] at hc2
  have hcall : ∀ w, Calls Tryz.prog 40 #[.string (s.extract f s.size)] w fun e w' => e = .returned (.tuple #[.int .i32 (rune ((bl s).drop f) : Nat), .int .i64 (cw ((bl s).drop f) : Nat), .bool (decide (W ((bl s).drop f) ≠ 0))]) ∧ Below w.heap.size w w' := by
    intro w
    have := first_any (s.extract f s.size) w (by rw [ByteArray.size_extract]; omega)
    rw [bl_from, hfv] at this
    exact this
  generalize cw ((bl s).drop f) = c at *
  generalize rune ((bl s).drop f) = r at *
  generalize decide (W ((bl s).drop f) ≠ 0) = g at *
  have HC := hide hcall
  have HP := hide hop
  clear hcall hop hfv
  by_cases h1 : f = n
  · have hb : ((f : Int) == (n : Int)) = true := by simp [h1]
    rw [decide_eq_true (.inl h1)]
    clear h1
    go_enter Tryz.func19, Tryz.ntmps19
    go_wp2_with (first | (go_at_call 39; refine (HP.out _).mono ?_; rintro e w1 ⟨rfl, rfl⟩) | (go_at_call 40; refine (HC.out _).mono ?_; rintro e w2 ⟨rfl, hB⟩))
    go_ret
    exact ⟨rfl, hB⟩
  · have hb : ((f : Int) == (n : Int)) = false := by simp; omega
    by_cases h2 : f + c ≤ n
    · have hb2 : (f : Int) + (c : Int) ≤ (n : Int) := by omega
      rw [decide_eq_true (.inr h2)]
      clear h1 h2
      go_enter Tryz.func19, Tryz.ntmps19
      go_wp2_with (first | (go_at_call 39; refine (HP.out _).mono ?_; rintro e w1 ⟨rfl, rfl⟩) | (go_at_call 40; refine (HC.out _).mono ?_; rintro e w2 ⟨rfl, hB⟩))
      go_ret
      first | exact ⟨rfl, hB⟩ | exact ⟨ret_bool (decide_eq_true hb2), hB⟩ | exact ⟨ret_bool (decide_eq_false (by omega)), hB⟩
    · have hb2 : (n : Int) < (f : Int) + (c : Int) := by omega
      rw [decide_eq_false (fun h => h.elim h1 h2)]
      clear h1 h2
      go_enter Tryz.func19, Tryz.ntmps19
      go_wp2_with (first | (go_at_call 39; refine (HP.out _).mono ?_; rintro e w1 ⟨rfl, rfl⟩) | (go_at_call 40; refine (HC.out _).mono ?_; rintro e w2 ⟨rfl, hB⟩))
      go_ret
      first | exact ⟨rfl, hB⟩ | exact ⟨ret_bool (decide_eq_true hb2), hB⟩ | exact ⟨ret_bool (decide_eq_false (by omega)), hB⟩

theorem begins_any (s : ByteArray) (n : Int) (w : World) (hs : s.size ≤ 9223372036854775807) :
    Calls Tryz.prog 19 #[.string s, .int .i64 n] w fun e w' => e = .returned (.bool (beginsV (bl s) n)) ∧ Below w.heap.size w w' := by
  unfold beginsV
  rw [bl_len]
  by_cases hb : n < 0 ∨ (s.size : Int) < n
  · have : (decide (0 ≤ n) && decide (n ≤ (s.size : Int))) = false := by
      rw [Bool.and_eq_false_iff]
      rcases hb with h | h
      · exact .inl (decide_eq_false (by omega))
      · exact .inr (decide_eq_false (by omega))
    rw [this]
    exact begins_bad s n w hb
  · rw [decide_eq_true (by omega : 0 ≤ n), decide_eq_true (by omega : n ≤ (s.size : Int))]
    by_cases he : n = (s.size : Int)
    · rw [decide_eq_true he, he]
      exact begins_end s w hs
    · rw [decide_eq_false he]
      obtain ⟨m, rfl⟩ : ∃ m : Nat, n = (m : Int) := ⟨n.toNat, by omega⟩
      rw [Int.toNat_natCast]
      exact begins_in s m w (by omega) hs

end Go.Proofs.YtodooppapciegaaGreatDoor
