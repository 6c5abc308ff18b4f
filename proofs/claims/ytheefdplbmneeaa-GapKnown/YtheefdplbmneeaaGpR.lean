/- The document's gap: a text and a place. -/
import Derived.Test.YtheefdplbmneeaaGpZc
import Derived.Test.YtheefdplbmneeaaPHeld
import Derived.Laws.Concat
namespace Go.Proofs.Ytheefdplbmneeaa
open Go.RowKit
set_option linter.unusedVariables false
set_option linter.unusedSimpArgs false

/-- The document's gap lies at a block. -/
def RefG (w : World) (r : Nat) (S : ByteArray) (p : Nat) : Prop := w.heap[r]? = some (.cells #[.string S, .int .i64 (p : Int)] 66 (0, 0))
section
variable {w w' : World} {r p : Nat} {S : ByteArray}
theorem RefG.lt (h : RefG w r S p) : r < w.heap.size := heap_ltK h
theorem RefG.c0 (h : RefG w r S p) : w.cell? ⟨r, 0, none⟩ = some (.string S) := by simp [World.cell?, show w.heap[r]? = _ from h]
theorem RefG.c1 (h : RefG w r S p) : w.cell? ⟨r, 1, none⟩ = some (.int .i64 (p : Int)) := by simp [World.cell?, show w.heap[r]? = _ from h]
theorem RefG.frozen (h : RefG w r S p) (o : Nat) : w.frozen? ⟨r, o, none⟩ = false := by simp [World.frozen?, show w.heap[r]? = _ from h]
theorem RefG.below (h : RefG w r S p) (hb : Below w.heap.size w w') : RefG w' r S p := (hb.block r h.lt).trans h
theorem RefG.keep {X : Nat → Prop} (h : RefG w r S p) (hb : Ke X w w') (hx : ¬ X r) : RefG w' r S p := hb.keep h hx
theorem RefG.set0 (h : RefG w r S p) (T : ByteArray) : RefG (w.setCell ⟨r, 0, none⟩ (.string T)) r T p := by
  unfold RefG at *
  simp only [World.setCell, Array.getElem?_modify, h]
  simp
theorem RefG.set1 (h : RefG w r S p) (q : Nat) : RefG (w.setCell ⟨r, 1, none⟩ (.int .i64 (q : Int))) r S q := by
  unfold RefG at *
  simp only [World.setCell, Array.getElem?_modify, h]
  simp
/-- No block is a gap of both kinds. -/
theorem ref_ne {g q : Nat} {T : ByteArray} (h : RefG w r S p) (k : GapL w g T q) : g ≠ r := fun e => by
  subst e
  have h1 : w.heap[g]? = _ := h
  have h2 : w.heap[g]? = _ := k.2.2
  rw [h1] at h2
  simp [gC] at h2
theorem rmake_no (T : ByteArray) (h : 252 < T.size) : Calls Try.prog 12 #[.string T] w fun e w' => e = .returned (.tuple #[.pointer none, .int .i64 161]) ∧ w' = w := by
  have hI : (252 : Int) < (T.size : Int) := by omega
  go_enter Try.func12, Try.ntmps12
  go_wp2
  go_ret2
  exact ⟨rfl, rfl⟩
theorem rmake_yes (T : ByteArray) (h : T.size ≤ 252) : Calls Try.prog 12 #[.string T] w fun e w' => ∃ r, e = .returned (.tuple #[.pointer (some ⟨r, 0, none⟩), .int .i64 0]) ∧ RefG w' r T T.size ∧ w.heap.size ≤ r ∧ Below w.heap.size w w' := by
  have hI : (T.size : Int) ≤ 252 := by omega
  have hh := heap_alloc_new w (.cells #[.string T, .int .i64 (T.size : Int)] 66)
  have hA := (Below.refl w.heap.size w).alloc (Nat.le_refl _) (.cells #[.string T, .int .i64 (T.size : Int)] 66)
  have HH := hide hh
  have HA := hide hA
  clear hh hA
  go_enter Try.func12, Try.ntmps12
  go_wp2
  go_ret2
  exact ⟨_, rfl, HH.out, Nat.le_refl _, HA.out⟩
theorem rmove_no (h : RefG w r S p) (hs : S.size ≤ 252) (a : Int) (ha : inV S.size a a = false) : Calls Try.prog 33 #[.pointer (some ⟨r, 0, none⟩), .int .i64 a] w fun e w' => e = .returned (.int .i64 6) ∧ w' = w := by
  have c0 := h.c0
  have hsI : (S.size : Int) ≤ 252 := by omega
  have hn := mt (in_iff S.size a a).2 (by rw [ha]; decide)
  by_cases h1 : 0 ≤ a
  · have h2 : (S.size : Int) < a := by omega
    clear hn ha h hs
    go_enter Try.func33, Try.ntmps33
    go_wp2
    go_ret
    exact ⟨rfl, rfl⟩
  · have h2 : a < 0 := by omega
    clear hn ha h hs
    go_enter Try.func33, Try.ntmps33
    go_wp2
    go_ret
    exact ⟨rfl, rfl⟩
theorem rmove_yes (h : RefG w r S p) (hs : S.size ≤ 252) (q : Nat) (hq : q ≤ S.size) : Calls Try.prog 33 #[.pointer (some ⟨r, 0, none⟩), .int .i64 (q : Int)] w fun e w' => e = .returned (.int .i64 0) ∧ RefG w' r S q ∧ Ke (fun k => k = r) w w' := by
  have c0 := h.c0
  have c1 := h.c1
  have f1 := h.frozen 1
  have hsI : (S.size : Int) ≤ 252 := by omega
  have hqI : (q : Int) ≤ (S.size : Int) := by omega
  have HH := hide (h.set1 q)
  have HK := hide (Ke.set w r 1 (.int .i64 (q : Int)) (X := fun k => k = r) rfl)
  clear h hs hq
  go_enter Try.func33, Try.ntmps33
  go_wp2
  go_ret
  exact ⟨rfl, HH.out, HK.out⟩
theorem rinsert_no (h : RefG w r S p) (hs : S.size ≤ 252) (a : Int) (T : ByteArray) (ha : inV S.size a a = false) : Calls Try.prog 34 #[.pointer (some ⟨r, 0, none⟩), .int .i64 a, .string T] w fun e w' => e = .returned (.int .i64 6) ∧ w' = w := by
  have c0 := h.c0
  have hsI : (S.size : Int) ≤ 252 := by omega
  have hn := mt (in_iff S.size a a).2 (by rw [ha]; decide)
  by_cases h1 : 0 ≤ a
  · have h2 : (S.size : Int) < a := by omega
    clear hn ha h hs
    go_enter Try.func34, Try.ntmps34
    go_wp2
    go_ret
    exact ⟨rfl, rfl⟩
  · have h2 : a < 0 := by omega
    clear hn ha h hs
    go_enter Try.func34, Try.ntmps34
    go_wp2
    go_ret
    exact ⟨rfl, rfl⟩
theorem rinsert_full (h : RefG w r S p) (hs : S.size ≤ 252) (q : Nat) (hq : q ≤ S.size) (T : ByteArray) (hf : 252 < S.size + T.size) : Calls Try.prog 34 #[.pointer (some ⟨r, 0, none⟩), .int .i64 (q : Int), .string T] w fun e w' => e = .returned (.int .i64 161) ∧ w' = w := by
  have c0 := h.c0
  have hsI : (S.size : Int) ≤ 252 := by omega
  have hqI : (q : Int) ≤ (S.size : Int) := by omega
  have hfI : (252 : Int) - (S.size : Int) < (T.size : Int) := by omega
  clear h hs hq hf
  go_enter Try.func34, Try.ntmps34
  go_wp2
  go_ret
  exact ⟨rfl, rfl⟩
set_option maxRecDepth 100000 in
set_option maxHeartbeats 1000000 in
theorem rinsert_yes (h : RefG w r S p) (hs : S.size ≤ 252) (q : Nat) (hq : q ≤ S.size) (T : ByteArray) (hf : S.size + T.size ≤ 252) : Calls Try.prog 34 #[.pointer (some ⟨r, 0, none⟩), .int .i64 (q : Int), .string T] w fun e w' => e = .returned (.int .i64 0) ∧ RefG w' r (S.extract 0 q ++ T ++ S.extract q S.size) (q + T.size) ∧ Ke (fun k => k = r) w w' := by
  have c0 := h.c0
  have c1 := h.c1
  have hsI : (S.size : Int) ≤ 252 := by omega
  have hqI : (q : Int) ≤ (S.size : Int) := by omega
  have hfI : ¬ ((252 : Int) - (S.size : Int) < (T.size : Int)) := by omega
  have hTI : (q : Int) + (T.size : Int) ≤ 504 := by omega
  have hsz := ins_size S T q hq
  obtain ⟨A, hA⟩ : ∃ A, A = S.extract 0 q := ⟨_, rfl⟩
  obtain ⟨C, hC⟩ : ∃ C, C = S.extract q S.size := ⟨_, rfl⟩
  have SA : Hid (∀ W, (Instr.slice 9 (.string S) none (some (.int .i64 (q : Int))) none).run Try.prog W = .ok (.string A) W) := fun W => by rw [hA]; exact cut_hd S q hq W
  have SC : Hid (∀ W, (Instr.slice 9 (.string S) (some (.int .i64 (q : Int))) none none).run Try.prog W = .ok (.string C) W) := fun W => by rw [hC]; exact cut_tl S q hq W
  rw [← hA, ← hC] at hsz ⊢
  rw [ByteArray.size_append, ByteArray.size_append] at hsz
  have E1 : Hid (∀ W, (Op.stringOp .add A T).run Try.prog W = .ok (.string (A ++ T)) W) := fun W => run_string_add_sum _ _ _ (by omega)
  have E2 : Hid (∀ W, (Op.stringOp .add (A ++ T) C).run Try.prog W = .ok (.string (A ++ T ++ C)) W) := fun W => run_string_add_sum _ _ _ (by rw [ByteArray.size_append]; omega)
  obtain ⟨W9, hW9⟩ : ∃ W9, W9 = (w.setCell ⟨r, 0, none⟩ (.string (A ++ T ++ C))).drew := ⟨_, rfl⟩
  have h9 : RefG W9 r (A ++ T ++ C) p := by rw [hW9]; exact h.set0 _
  have k9 : Ke (fun k => k = r) w W9 := by rw [hW9]; exact (Ke.set (X := fun k => k = r) w r 0 _ rfl).trans (Ke.of_below (Below.refl _ _).drew)
  have f0 := h.frozen 0
  have q1 := h9.c1
  have f9 := h9.frozen 1
  have HH := hide (h9.set1 (q + T.size))
  have HK := hide (k9.trans (Ke.set W9 r 1 (.int .i64 ((q + T.size : Nat) : Int)) (X := fun k => k = r) rfl))
  have EC : Hid (((q + T.size : Nat) : Int) = (q : Int) + (T.size : Int)) := by show _ = _; omega
  rw [EC.out] at HH HK
  have HW := hide hW9.symm
  clear h hs hq hf hsz hA hC h9 k9 hW9
  go_enter Try.func34, Try.ntmps34
  go_upto_region 5 with (fail)
  refine wp_region_early 18 (fun X => X.cell? ⟨r, 0, none⟩ = some (.string S)) (by kernel_rfl) c0 (fun hS => ?_)
  refine wpAnyE_take (i := 0) (v := (.pointer (some ⟨r, 0, none⟩))) rfl (by kernel_rfl) (by kernel_rfl) (by kernel_rfl) (by kernel_rfl) (fun _ _ _ h => h) (Or.inl ⟨by kernel_rfl, fun w' hw => by (go_simp)⟩) hS ?_
  refine wpAnyE_take (i := 1) (v := (.pointer (some ⟨r, 0, none⟩))) rfl (by kernel_rfl) (by kernel_rfl) (by kernel_rfl) (by kernel_rfl) (fun _ _ _ h => h) (Or.inl ⟨by kernel_rfl, fun w' hw => by (go_simp)⟩) hS ?_
  refine wpAnyE_take (i := 2) (v := (.pointer (some ⟨r, 0, none⟩))) rfl (by kernel_rfl) (by kernel_rfl) (by kernel_rfl) (by kernel_rfl) (fun _ _ _ h => h) (Or.inl ⟨by kernel_rfl, fun w' hw => by (go_simp)⟩) hS ?_
  refine wpAnyE_take (i := 3) (v := (.pointer (some ⟨r, 0, none⟩))) rfl (by kernel_rfl) (by kernel_rfl) (by kernel_rfl) (by kernel_rfl) (fun _ _ _ h => h) (Or.inl ⟨by kernel_rfl, fun w' hw => by (go_simp)⟩) hS ?_
  refine wpAnyE_take (i := 4) (v := (.string S)) rfl (by kernel_rfl) (by kernel_rfl) (by kernel_rfl) (by kernel_rfl) (fun _ _ _ h => h) (Or.inl ⟨by kernel_rfl, fun w' hw => by (go_simp)⟩) hS ?_
  refine wpAnyE_take (i := 5) (v := (.int .i64 (q : Int))) rfl (by kernel_rfl) (by kernel_rfl) (by kernel_rfl) (by kernel_rfl) (fun _ _ _ h => h) (Or.inl ⟨by kernel_rfl, fun w' hw => by (go_simp)⟩) hS ?_
  refine wpAnyE_take (i := 6) (v := (.string A)) rfl (by kernel_rfl) (by kernel_rfl) (by kernel_rfl) (by kernel_rfl) (fun _ _ _ h => h) (Or.inl ⟨by kernel_rfl, fun w' hw => by (have sA := SA.out; go_simp)⟩) hS ?_
  refine wpAnyE_take (i := 7) (v := (.string T)) rfl (by kernel_rfl) (by kernel_rfl) (by kernel_rfl) (by kernel_rfl) (fun _ _ _ h => h) (Or.inl ⟨by kernel_rfl, fun w' hw => by (go_simp)⟩) hS ?_
  refine wpAnyE_take (i := 8) (v := (.string (A ++ T))) rfl (by kernel_rfl) (by kernel_rfl) (by kernel_rfl) (by kernel_rfl) (fun _ _ _ h => h) (Or.inl ⟨by kernel_rfl, fun w' hw => by (have e1 := E1.out; go_simp)⟩) hS ?_
  refine wpAnyE_take (i := 9) (v := (.pointer (some ⟨r, 0, none⟩))) rfl (by kernel_rfl) (by kernel_rfl) (by kernel_rfl) (by kernel_rfl) (fun _ _ _ h => h) (Or.inl ⟨by kernel_rfl, fun w' hw => by (go_simp)⟩) hS ?_
  refine wpAnyE_take (i := 10) (v := (.pointer (some ⟨r, 0, none⟩))) rfl (by kernel_rfl) (by kernel_rfl) (by kernel_rfl) (by kernel_rfl) (fun _ _ _ h => h) (Or.inl ⟨by kernel_rfl, fun w' hw => by (go_simp)⟩) hS ?_
  refine wpAnyE_take (i := 11) (v := (.pointer (some ⟨r, 0, none⟩))) rfl (by kernel_rfl) (by kernel_rfl) (by kernel_rfl) (by kernel_rfl) (fun _ _ _ h => h) (Or.inl ⟨by kernel_rfl, fun w' hw => by (go_simp)⟩) hS ?_
  refine wpAnyE_take (i := 12) (v := (.string S)) rfl (by kernel_rfl) (by kernel_rfl) (by kernel_rfl) (by kernel_rfl) (fun _ _ _ h => h) (Or.inl ⟨by kernel_rfl, fun w' hw => by (go_simp)⟩) hS ?_
  refine wpAnyE_take (i := 13) (v := (.int .i64 (q : Int))) rfl (by kernel_rfl) (by kernel_rfl) (by kernel_rfl) (by kernel_rfl) (fun _ _ _ h => h) (Or.inl ⟨by kernel_rfl, fun w' hw => by (go_simp)⟩) hS ?_
  refine wpAnyE_take (i := 14) (v := (.string C)) rfl (by kernel_rfl) (by kernel_rfl) (by kernel_rfl) (by kernel_rfl) (fun _ _ _ h => h) (Or.inl ⟨by kernel_rfl, fun w' hw => by (have sC := SC.out; go_simp)⟩) hS ?_
  refine wpAnyE_take (i := 15) (v := (.string (A ++ T ++ C))) rfl (by kernel_rfl) (by kernel_rfl) (by kernel_rfl) (by kernel_rfl) (fun _ _ _ h => h) (Or.inl ⟨by kernel_rfl, fun w' hw => by (have e2 := E2.out; go_simp)⟩) hS ?_
  refine wpAnyE_do (i := 16) (by kernel_rfl) rfl (by kernel_rfl) (fun K hK => ?_)
  go_wp2_with (fail)
  refine hK.out _ _ (fun _ => hS) ?_
  clear hK K
  refine wpAnyE_take (i := 17) (v := (.pointer (some ⟨r, 0, none⟩))) rfl (by kernel_rfl) (by kernel_rfl) (by kernel_rfl) (by kernel_rfl) (fun _ _ _ h => h) (Or.inl ⟨by kernel_rfl, fun w' hw => by (go_simp)⟩) hS ?_
  refine wpAnyE_last (by kernel_rfl) rfl (by kernel_rfl) (by kernel_rfl) (fun K hK => ?_)
  go_wp2_with (fail)
  refine hK.out _ _ ?_
  clear hK K
  try simp only [Act.put, List.getElem_toArray, List.getElem_cons_zero, List.getElem_cons_succ, List.setIfInBounds_toArray, List.set_cons_zero, List.set_cons_succ]
  rw [HW.out]
  go_wp2
  go_ret
  exact ⟨rfl, HH.out, HK.out⟩
theorem rdelete_no (h : RefG w r S p) (hs : S.size ≤ 252) (a b : Int) (ha : inV S.size a b = false) : Calls Try.prog 35 #[.pointer (some ⟨r, 0, none⟩), .int .i64 a, .int .i64 b] w fun e w' => e = .returned (.int .i64 6) ∧ w' = w := by
  have c0 := h.c0
  have hsI : (S.size : Int) ≤ 252 := by omega
  have hn := mt (in_iff S.size a b).2 (by rw [ha]; decide)
  by_cases h1 : 0 ≤ a
  · by_cases h3 : a ≤ b
    · have h2 : (S.size : Int) < b := by omega
      clear hn ha h hs
      go_enter Try.func35, Try.ntmps35
      go_wp2
      go_ret
      exact ⟨rfl, rfl⟩
    · have h2 : b < a := by omega
      clear hn ha h hs
      go_enter Try.func35, Try.ntmps35
      go_wp2
      go_ret
      exact ⟨rfl, rfl⟩
  · have h2 : a < 0 := by omega
    clear hn ha h hs
    go_enter Try.func35, Try.ntmps35
    go_wp2
    go_ret
    exact ⟨rfl, rfl⟩
theorem rslice_no (h : RefG w r S p) (hs : S.size ≤ 252) (a b : Int) (ha : inV S.size a b = false) : Calls Try.prog 36 #[.pointer (some ⟨r, 0, none⟩), .int .i64 a, .int .i64 b] w fun e w' => e = .returned (.tuple #[.string ⟨#[]⟩, .int .i64 6]) ∧ w' = w := by
  have c0 := h.c0
  have hsI : (S.size : Int) ≤ 252 := by omega
  have hn := mt (in_iff S.size a b).2 (by rw [ha]; decide)
  by_cases h1 : 0 ≤ a
  · by_cases h3 : a ≤ b
    · have h2 : (S.size : Int) < b := by omega
      clear hn ha h hs
      go_enter Try.func36, Try.ntmps36
      go_wp2
      go_ret2
      exact ⟨rfl, rfl⟩
    · have h2 : b < a := by omega
      clear hn ha h hs
      go_enter Try.func36, Try.ntmps36
      go_wp2
      go_ret2
      exact ⟨rfl, rfl⟩
  · have h2 : a < 0 := by omega
    clear hn ha h hs
    go_enter Try.func36, Try.ntmps36
    go_wp2
    go_ret2
    exact ⟨rfl, rfl⟩
theorem rslice_yes (h : RefG w r S p) (hs : S.size ≤ 252) (a b : Nat) (hab : a ≤ b) (hb : b ≤ S.size) : Calls Try.prog 36 #[.pointer (some ⟨r, 0, none⟩), .int .i64 (a : Int), .int .i64 (b : Int)] w fun e w' => e = .returned (.tuple #[.string (S.extract a b), .int .i64 0]) ∧ w' = w := by
  have c0 := h.c0
  have hsI : (S.size : Int) ≤ 252 := by omega
  have h1 : (a : Int) ≤ (b : Int) := by omega
  have h2 : (b : Int) ≤ (S.size : Int) := by omega
  clear h
  go_enter Try.func36, Try.ntmps36
  go_wp2
  go_ret2
  exact ⟨rfl, rfl⟩
set_option maxRecDepth 100000 in
set_option maxHeartbeats 1000000 in
theorem rdelete_yes (h : RefG w r S p) (hs : S.size ≤ 252) (q t : Nat) (hqt : q ≤ t) (ht : t ≤ S.size) : Calls Try.prog 35 #[.pointer (some ⟨r, 0, none⟩), .int .i64 (q : Int), .int .i64 (t : Int)] w fun e w' => e = .returned (.int .i64 0) ∧ RefG w' r (S.extract 0 q ++ S.extract t S.size) q ∧ Ke (fun k => k = r) w w' := by
  have c0 := h.c0
  have hsI : (S.size : Int) ≤ 252 := by omega
  have hqI : (q : Int) ≤ (t : Int) := by omega
  have htI : (t : Int) ≤ (S.size : Int) := by omega
  have hsz := del_size S q t hqt ht
  obtain ⟨A, hA⟩ : ∃ A, A = S.extract 0 q := ⟨_, rfl⟩
  obtain ⟨C, hC⟩ : ∃ C, C = S.extract t S.size := ⟨_, rfl⟩
  have SA : Hid (∀ W, (Instr.slice 9 (.string S) none (some (.int .i64 (q : Int))) none).run Try.prog W = .ok (.string A) W) := fun W => by rw [hA]; exact cut_hd S q (by omega) W
  have SC : Hid (∀ W, (Instr.slice 9 (.string S) (some (.int .i64 (t : Int))) none none).run Try.prog W = .ok (.string C) W) := fun W => by rw [hC]; exact cut_tl S t ht W
  rw [← hA, ← hC] at hsz ⊢
  rw [ByteArray.size_append] at hsz
  have E1 : Hid (∀ W, (Op.stringOp .add A C).run Try.prog W = .ok (.string (A ++ C)) W) := fun W => run_string_add_sum _ _ _ (by omega)
  obtain ⟨W9, hW9⟩ : ∃ W9, W9 = (w.setCell ⟨r, 0, none⟩ (.string (A ++ C))).drew := ⟨_, rfl⟩
  have h9 : RefG W9 r (A ++ C) p := by rw [hW9]; exact h.set0 _
  have k9 : Ke (fun k => k = r) w W9 := by rw [hW9]; exact (Ke.set (X := fun k => k = r) w r 0 _ rfl).trans (Ke.of_below (Below.refl _ _).drew)
  have f0 := h.frozen 0
  have q1 := h9.c1
  have f9 := h9.frozen 1
  have HH := hide (h9.set1 q)
  have HK := hide (k9.trans (Ke.set W9 r 1 (.int .i64 (q : Int)) (X := fun k => k = r) rfl))
  have HW := hide hW9.symm
  clear h hs hqt ht hsz hA hC h9 k9 hW9
  go_enter Try.func35, Try.ntmps35
  go_upto_region 3 with (fail)
  refine wp_region_early 16 (fun X => X.cell? ⟨r, 0, none⟩ = some (.string S)) (by kernel_rfl) c0 (fun hS => ?_)
  refine wpAnyE_take (i := 0) (v := (.pointer (some ⟨r, 0, none⟩))) rfl (by kernel_rfl) (by kernel_rfl) (by kernel_rfl) (by kernel_rfl) (fun _ _ _ h => h) (Or.inl ⟨by kernel_rfl, fun w' hw => by (go_simp)⟩) hS ?_
  refine wpAnyE_take (i := 1) (v := (.pointer (some ⟨r, 0, none⟩))) rfl (by kernel_rfl) (by kernel_rfl) (by kernel_rfl) (by kernel_rfl) (fun _ _ _ h => h) (Or.inl ⟨by kernel_rfl, fun w' hw => by (go_simp)⟩) hS ?_
  refine wpAnyE_take (i := 2) (v := (.pointer (some ⟨r, 0, none⟩))) rfl (by kernel_rfl) (by kernel_rfl) (by kernel_rfl) (by kernel_rfl) (fun _ _ _ h => h) (Or.inl ⟨by kernel_rfl, fun w' hw => by (go_simp)⟩) hS ?_
  refine wpAnyE_take (i := 3) (v := (.pointer (some ⟨r, 0, none⟩))) rfl (by kernel_rfl) (by kernel_rfl) (by kernel_rfl) (by kernel_rfl) (fun _ _ _ h => h) (Or.inl ⟨by kernel_rfl, fun w' hw => by (go_simp)⟩) hS ?_
  refine wpAnyE_take (i := 4) (v := (.string S)) rfl (by kernel_rfl) (by kernel_rfl) (by kernel_rfl) (by kernel_rfl) (fun _ _ _ h => h) (Or.inl ⟨by kernel_rfl, fun w' hw => by (go_simp)⟩) hS ?_
  refine wpAnyE_take (i := 5) (v := (.int .i64 (q : Int))) rfl (by kernel_rfl) (by kernel_rfl) (by kernel_rfl) (by kernel_rfl) (fun _ _ _ h => h) (Or.inl ⟨by kernel_rfl, fun w' hw => by (go_simp)⟩) hS ?_
  refine wpAnyE_take (i := 6) (v := (.string A)) rfl (by kernel_rfl) (by kernel_rfl) (by kernel_rfl) (by kernel_rfl) (fun _ _ _ h => h) (Or.inl ⟨by kernel_rfl, fun w' hw => by (have sA := SA.out; go_simp)⟩) hS ?_
  refine wpAnyE_take (i := 7) (v := (.pointer (some ⟨r, 0, none⟩))) rfl (by kernel_rfl) (by kernel_rfl) (by kernel_rfl) (by kernel_rfl) (fun _ _ _ h => h) (Or.inl ⟨by kernel_rfl, fun w' hw => by (go_simp)⟩) hS ?_
  refine wpAnyE_take (i := 8) (v := (.pointer (some ⟨r, 0, none⟩))) rfl (by kernel_rfl) (by kernel_rfl) (by kernel_rfl) (by kernel_rfl) (fun _ _ _ h => h) (Or.inl ⟨by kernel_rfl, fun w' hw => by (go_simp)⟩) hS ?_
  refine wpAnyE_take (i := 9) (v := (.pointer (some ⟨r, 0, none⟩))) rfl (by kernel_rfl) (by kernel_rfl) (by kernel_rfl) (by kernel_rfl) (fun _ _ _ h => h) (Or.inl ⟨by kernel_rfl, fun w' hw => by (go_simp)⟩) hS ?_
  refine wpAnyE_take (i := 10) (v := (.string S)) rfl (by kernel_rfl) (by kernel_rfl) (by kernel_rfl) (by kernel_rfl) (fun _ _ _ h => h) (Or.inl ⟨by kernel_rfl, fun w' hw => by (go_simp)⟩) hS ?_
  refine wpAnyE_take (i := 11) (v := (.int .i64 (t : Int))) rfl (by kernel_rfl) (by kernel_rfl) (by kernel_rfl) (by kernel_rfl) (fun _ _ _ h => h) (Or.inl ⟨by kernel_rfl, fun w' hw => by (go_simp)⟩) hS ?_
  refine wpAnyE_take (i := 12) (v := (.string C)) rfl (by kernel_rfl) (by kernel_rfl) (by kernel_rfl) (by kernel_rfl) (fun _ _ _ h => h) (Or.inl ⟨by kernel_rfl, fun w' hw => by (have sC := SC.out; go_simp)⟩) hS ?_
  refine wpAnyE_take (i := 13) (v := (.string (A ++ C))) rfl (by kernel_rfl) (by kernel_rfl) (by kernel_rfl) (by kernel_rfl) (fun _ _ _ h => h) (Or.inl ⟨by kernel_rfl, fun w' hw => by (have e1 := E1.out; go_simp)⟩) hS ?_
  refine wpAnyE_do (i := 14) (by kernel_rfl) rfl (by kernel_rfl) (fun K hK => ?_)
  go_wp2_with (fail)
  refine hK.out _ _ (fun _ => hS) ?_
  clear hK K
  refine wpAnyE_take (i := 15) (v := (.pointer (some ⟨r, 0, none⟩))) rfl (by kernel_rfl) (by kernel_rfl) (by kernel_rfl) (by kernel_rfl) (fun _ _ _ h => h) (Or.inl ⟨by kernel_rfl, fun w' hw => by (go_simp)⟩) hS ?_
  refine wpAnyE_last (by kernel_rfl) rfl (by kernel_rfl) (by kernel_rfl) (fun K hK => ?_)
  go_wp2_with (fail)
  refine hK.out _ _ ?_
  clear hK K
  try simp only [Act.put, List.getElem_toArray, List.getElem_cons_zero, List.getElem_cons_succ, List.setIfInBounds_toArray, List.set_cons_zero, List.set_cons_succ]
  rw [HW.out]
  go_wp2
  go_ret
  exact ⟨rfl, HH.out, HK.out⟩
end
end Go.Proofs.Ytheefdplbmneeaa
