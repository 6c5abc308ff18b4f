/- The statements' own step(): one step of both gaps. -/
import Derived.Test.YtheefdplbmneeaaGpU
namespace Go.Proofs.Ytheefdplbmneeaa
open Go.RowKit
set_option linter.unusedVariables false
set_option linter.unusedSimpArgs false

/-- A step as a block of its own. -/
def StY (W : World) (X : Nat) (d f t : Int) (x : ByteArray) : Prop := W.heap[X]? = some (.cells #[.int .i64 d, .int .i64 f, .int .i64 t, .string x] 25 (0, 0))
section
variable {W W' : World} {X : Nat} {d f t : Int} {x : ByteArray}
theorem StY.c0 (h : StY W X d f t x) : W.cell? ⟨X, 0, none⟩ = some (.int .i64 d) := by simp [World.cell?, show W.heap[X]? = _ from h]
theorem StY.c3 (h : StY W X d f t x) : W.cell? ⟨X, 1, none⟩ = some (.int .i64 f) ∧ W.cell? ⟨X, 2, none⟩ = some (.int .i64 t) ∧ W.cell? ⟨X, 3, none⟩ = some (.string x) := by
  refine ⟨?_, ?_, ?_⟩ <;> simp [World.cell?, show W.heap[X]? = _ from h]
theorem StY.below (h : StY W X d f t x) (hb : Below W.heap.size W W') : StY W' X d f t x := (hb.block X (heap_ltK h)).trans h
theorem StY.keep {Y : Nat → Prop} (h : StY W X d f t x) (hb : Ke Y W W') (hx : ¬ Y X) : StY W' X d f t x := hb.keep h hx
end
theorem same_b {f : Nat} {args : Array Value} {w : World} {v : Ending} (h : Calls Try.prog f args w fun e w' => e = v ∧ w' = w) : Calls Try.prog f args w fun e w' => e = v ∧ Below w.heap.size w w' :=
  h.mono fun e w' ⟨h1, h2⟩ => ⟨h1, by rw [h2]; exact Below.refl _ _⟩
/-- A block of some bytes. -/
def Any8 (W : World) (P : Nat) : Prop := ∃ C : Array Value, W.heap[P]? = some (.cells C 69 (0, 0)) ∧ C.size = 256 ∧ ∀ i, i < 256 → ∃ n : Int, C[i]? = some (.int .u8 n)
section
variable {W : World} {P k : Nat}
theorem Any8.at (h : Any8 W P) (hk : k < 256) : ∃ n : Int, W.cell? ⟨P, k, none⟩ = some (.int .u8 n) ∧ W.frozen? ⟨P, k, none⟩ = false := by
  obtain ⟨C, h1, h2, h3⟩ := h
  obtain ⟨n, hn⟩ := h3 k hk
  exact ⟨n, by simp [World.cell?, h1, hn], by simp [World.frozen?, h1]⟩
theorem Any8.set (h : Any8 W P) (hk : k < 256) (v : Int) : Any8 (W.setCell ⟨P, k, none⟩ (.int .u8 v)) P := by
  obtain ⟨C, h1, h2, h3⟩ := h
  refine ⟨C.setIfInBounds k (.int .u8 v), ?_, by simp [h2], fun i hi => ?_⟩
  · simp only [World.setCell, Array.getElem?_modify, h1]; simp
  · rw [Array.getElem?_setIfInBounds]
    split
    · exact ⟨v, by rw [if_pos (by omega)]⟩
    · exact h3 i hi
theorem Any8.no_gap {S : ByteArray} {p : Nat} (h : Any8 W P) (k : GapL W P S p) : False := by
  obtain ⟨C, h1, h2, h3⟩ := h
  have h4 : W.heap[P]? = _ := k.2.2
  rw [h1] at h4
  simp at h4
theorem Any8.no_ref {S : ByteArray} {p : Nat} (h : Any8 W P) (k : RefG W P S p) : False := by
  obtain ⟨C, h1, h2, h3⟩ := h
  have h4 : W.heap[P]? = _ := k
  rw [h1] at h4
  simp at h4
end
set_option maxRecDepth 100000 in
set_option maxHeartbeats 8000000 in
theorem step_any {w : World} {g r p : Nat} {S : ByteArray} (hg : GapL w g S p) (hr : RefG w r S p) (d f t : Int) (x : ByteArray) (hf : -9223372036854775808 ≤ f ∧ f ≤ 9223372036854775807) (ht : -9223372036854775808 ≤ t ∧ t ≤ 9223372036854775807) (hx : x.size ≤ 140737488351232) :
    Calls Try.prog 13 #[.pointer (some ⟨g, 0, none⟩), .pointer (some ⟨r, 0, none⟩), .agg #[.int .i64 d, .int .i64 f, .int .i64 t, .string x]] w fun e w' => ∃ g' S' p', e = .returned (.tuple #[.pointer (some ⟨g', 0, none⟩), .bool true]) ∧ GapL w' g' S' p' ∧ RefG w' r S' p' ∧ Ke (fun k => k = g ∨ k = r) w w' ∧ (g' = g ∨ w.heap.size ≤ g') := by
  have hA := (Below.refl w.heap.size w).alloc (Nat.le_refl _) (.cells #[.int .i64 d, .int .i64 f, .int .i64 t, .string x] 25)
  have X3 : Hid (StY (w.alloc (.cells #[.int .i64 d, .int .i64 f, .int .i64 t, .string x] 25)) w.heap.size d f t x) := heap_alloc_new w (.cells #[.int .i64 d, .int .i64 f, .int .i64 t, .string x] 25)
  have G3 := hide (hg.below hA)
  have R3 := hide (hr.below hA)
  have KA := hide (Ke.of_below hA : Ke (fun k => k = g ∨ k = r) w _)
  have NGR : Hid (g ≠ r) := ref_ne hr hg
  have NXG : Hid (¬ w.heap.size = g) := show ¬ w.heap.size = g by have := hg.lt; omega
  have NXR : Hid (¬ w.heap.size = r) := show ¬ w.heap.size = r by have := hr.lt; omega
  have HP := hide hg.1
  have HZ := hide hg.2.1
  clear hg hr hA
  go_enter Try.func13, Try.ntmps13
  go_upto_region 1 with (fail)
  generalize w.alloc (.cells #[.int .i64 d, .int .i64 f, .int .i64 t, .string x] 25) = W3 at *
  generalize w.heap.size = X at *
  have c0 := X3.out.c0
  obtain ⟨c1, c2, c3⟩ := X3.out.c3
  have X4 : Hid (StY W3.drew X d f t x) := X3.out.below (Below.refl _ W3).drew
  have C1 := hide X4.out.c3
  have G4 := hide (G3.out.below (Below.refl _ W3).drew)
  have R4 := hide (R3.out.below (Below.refl _ W3).drew)
  by_cases hd1 : d = 1
  · subst hd1
    cases hi : inV S.size f f with
    | true =>
      obtain ⟨h0, h1, h2⟩ := (in_iff _ _ _).1 hi
      obtain ⟨q, rfl⟩ : ∃ q : Nat, f = (q : Int) := ⟨f.toNat, by omega⟩
      have HQ : Hid (q ≤ S.size) := show q ≤ S.size by omega
      clear h0 h1 h2 hi
      go_upto_region 3 with (fail)
      refine wp_region_held_drew (S := fun Y => Y.cell? ⟨X, 1, none⟩ = some (.int .i64 (q : Int)) ∧ Y.cell? ⟨X, 2, none⟩ = some (.int .i64 t) ∧ Y.cell? ⟨X, 3, none⟩ = some (.string x)) (by kernel_rfl) C1.out (fun hS => ?_)
      refine wpAnyH_take (i := 0) (v := (.pointer (some ⟨g, 0, none⟩))) rfl (by kernel_rfl) (by kernel_rfl) (by kernel_rfl) (fun _ _ _ h => h) (Or.inl ⟨by kernel_rfl, fun w' hw => by (go_simp)⟩) hS ?_
      refine wpAnyH_take (i := 1) (v := (.pointer (some ⟨g, 0, none⟩))) rfl (by kernel_rfl) (by kernel_rfl) (by kernel_rfl) (fun _ _ _ h => h) (Or.inl ⟨by kernel_rfl, fun w' hw => by (go_simp)⟩) hS ?_
      refine wpAnyH_take (i := 2) (v := (.pointer (some ⟨X, 1, none⟩))) rfl (by kernel_rfl) (by kernel_rfl) (by kernel_rfl) (fun _ _ _ h => h) (Or.inl ⟨by kernel_rfl, fun w' hw => by (go_simp)⟩) hS ?_
      refine wpAnyH_take (i := 3) (v := (.int .i64 (q : Int))) rfl (by kernel_rfl) (by kernel_rfl) (by kernel_rfl) (fun _ _ _ h => h) (Or.inl ⟨by kernel_rfl, fun w' hw => by (go_simp)⟩) hS ?_
      refine wpAnyH_take (i := 5) (v := (.pointer (some ⟨r, 0, none⟩))) rfl (by kernel_rfl) (by kernel_rfl) (by kernel_rfl) (fun _ _ _ h => h) (Or.inl ⟨by kernel_rfl, fun w' hw => by (go_simp)⟩) hS ?_
      refine wpAnyH_take (i := 6) (v := (.pointer (some ⟨X, 1, none⟩))) rfl (by kernel_rfl) (by kernel_rfl) (by kernel_rfl) (fun _ _ _ h => h) (Or.inl ⟨by kernel_rfl, fun w' hw => by (go_simp)⟩) hS ?_
      refine wpAnyH_take (i := 7) (v := (.int .i64 (q : Int))) rfl (by kernel_rfl) (by kernel_rfl) (by kernel_rfl) (fun _ _ _ h => h) (Or.inl ⟨by kernel_rfl, fun w' hw => by (go_simp)⟩) hS ?_
      refine gp_go (i := 4) (by kernel_rfl) rfl (by kernel_rfl) (fun K hK => ?_)
      go_wp2_with (go_at_call 16; refine (move_yes G4.out q HQ.out).mono ?_; rintro e W5 ⟨rfl, hg5, hk5⟩; have G5 := hide hg5; have R5 := hide (R4.out.keep hk5 (fun e => NGR.out e.symm)); have K5 := hide hk5; have X5 := hide (X4.out.keep hk5 NXG.out); have C5 := hide X5.out.c3; clear hg5 hk5)
      refine hK.out _ _ C5.out ?_
      clear hK K
      refine gp_go (i := 8) (by kernel_rfl) rfl (by kernel_rfl) (fun K hK => ?_)
      go_wp2_with (go_at_call 33; refine (rmove_yes R5.out HZ.out q HQ.out).mono ?_; rintro e W6 ⟨rfl, hr6, hk6⟩; have R6 := hide hr6; have G6 := hide (G5.out.keep hk6 (fun e => NGR.out e)); have K6 := hide hk6; have C6 := hide (X5.out.keep hk6 NXR.out).c3; clear hr6 hk6)
      refine hK.out _ _ C6.out ?_
      clear hK K
      refine wpAnyH_take (i := 9) (v := (.bool true)) rfl (by kernel_rfl) (by kernel_rfl) (by kernel_rfl) (fun _ _ _ h => h) (Or.inl ⟨by kernel_rfl, fun w' hw => by (go_simp)⟩) C6.out ?_
      refine wpAnyH_take (i := 10) (v := (.pointer (some ⟨g, 0, none⟩))) rfl (by kernel_rfl) (by kernel_rfl) (by kernel_rfl) (fun _ _ _ h => h) (Or.inl ⟨by kernel_rfl, fun w' hw => by (go_simp)⟩) C6.out ?_
      refine wpAnyH_take (i := 11) (v := (.bool true)) rfl (by kernel_rfl) (by kernel_rfl) (by kernel_rfl) (fun _ _ _ h => h) (Or.inl ⟨by kernel_rfl, fun w' hw => by (go_simp)⟩) C6.out ?_
      refine wpAnyH_done (by kernel_rfl) ?_ _
      try simp only [Act.put, List.getElem_toArray, List.getElem_cons_zero, List.getElem_cons_succ, List.setIfInBounds_toArray, List.set_cons_zero, List.set_cons_succ]
      go_wp2_with (fail)
      go_ret2
      exact ⟨g, _, _, rfl, G6.out, R6.out, (KA.out.trans (Ke.of_below (Below.refl _ W3).drew)).trans ((K5.out.mono (fun i h => .inl h)).trans (K6.out.mono (fun i h => .inr h))), .inl rfl⟩
    | false =>
      have HI := hide hi
      clear hi
      go_upto_region 3 with (fail)
      refine wp_region_held_drew (S := fun Y => Y.cell? ⟨X, 1, none⟩ = some (.int .i64 f) ∧ Y.cell? ⟨X, 2, none⟩ = some (.int .i64 t) ∧ Y.cell? ⟨X, 3, none⟩ = some (.string x)) (by kernel_rfl) C1.out (fun hS => ?_)
      refine wpAnyH_take (i := 0) (v := (.pointer (some ⟨g, 0, none⟩))) rfl (by kernel_rfl) (by kernel_rfl) (by kernel_rfl) (fun _ _ _ h => h) (Or.inl ⟨by kernel_rfl, fun w' hw => by (go_simp)⟩) hS ?_
      refine wpAnyH_take (i := 1) (v := (.pointer (some ⟨g, 0, none⟩))) rfl (by kernel_rfl) (by kernel_rfl) (by kernel_rfl) (fun _ _ _ h => h) (Or.inl ⟨by kernel_rfl, fun w' hw => by (go_simp)⟩) hS ?_
      refine wpAnyH_take (i := 2) (v := (.pointer (some ⟨X, 1, none⟩))) rfl (by kernel_rfl) (by kernel_rfl) (by kernel_rfl) (fun _ _ _ h => h) (Or.inl ⟨by kernel_rfl, fun w' hw => by (go_simp)⟩) hS ?_
      refine wpAnyH_take (i := 3) (v := (.int .i64 f)) rfl (by kernel_rfl) (by kernel_rfl) (by kernel_rfl) (fun _ _ _ h => h) (Or.inl ⟨by kernel_rfl, fun w' hw => by (go_simp)⟩) hS ?_
      refine wpAnyH_take (i := 5) (v := (.pointer (some ⟨r, 0, none⟩))) rfl (by kernel_rfl) (by kernel_rfl) (by kernel_rfl) (fun _ _ _ h => h) (Or.inl ⟨by kernel_rfl, fun w' hw => by (go_simp)⟩) hS ?_
      refine wpAnyH_take (i := 6) (v := (.pointer (some ⟨X, 1, none⟩))) rfl (by kernel_rfl) (by kernel_rfl) (by kernel_rfl) (fun _ _ _ h => h) (Or.inl ⟨by kernel_rfl, fun w' hw => by (go_simp)⟩) hS ?_
      refine wpAnyH_take (i := 7) (v := (.int .i64 f)) rfl (by kernel_rfl) (by kernel_rfl) (by kernel_rfl) (fun _ _ _ h => h) (Or.inl ⟨by kernel_rfl, fun w' hw => by (go_simp)⟩) hS ?_
      refine gp_go (i := 4) (by kernel_rfl) rfl (by kernel_rfl) (fun K hK => ?_)
      go_wp2_with (go_at_call 16; refine (move_no G4.out f HI.out).mono ?_; rintro e W5 ⟨rfl, hb5⟩; have hk5 : Ke (fun i => i = g) W3.drew W5 := Ke.of_below hb5; have G5 := hide (G4.out.below hb5); have R5 := hide (R4.out.below hb5); have K5 := hide hk5; have X5 := hide (X4.out.below hb5); have C5 := hide X5.out.c3; clear hb5 hk5)
      refine hK.out _ _ C5.out ?_
      clear hK K
      refine gp_go (i := 8) (by kernel_rfl) rfl (by kernel_rfl) (fun K hK => ?_)
      go_wp2_with (go_at_call 33; refine (same_b (rmove_no R5.out HZ.out f HI.out)).mono ?_; rintro e W6 ⟨rfl, hb6⟩; have K6 := hide (Ke.of_below hb6 : Ke (fun i => i = r) W5 W6); have G6 := hide (G5.out.below hb6); have R6 := hide (R5.out.below hb6); have C6 := hide (X5.out.below hb6).c3; clear hb6)
      refine hK.out _ _ C6.out ?_
      clear hK K
      refine wpAnyH_take (i := 9) (v := (.bool true)) rfl (by kernel_rfl) (by kernel_rfl) (by kernel_rfl) (fun _ _ _ h => h) (Or.inl ⟨by kernel_rfl, fun w' hw => by (go_simp)⟩) C6.out ?_
      refine wpAnyH_take (i := 10) (v := (.pointer (some ⟨g, 0, none⟩))) rfl (by kernel_rfl) (by kernel_rfl) (by kernel_rfl) (fun _ _ _ h => h) (Or.inl ⟨by kernel_rfl, fun w' hw => by (go_simp)⟩) C6.out ?_
      refine wpAnyH_take (i := 11) (v := (.bool true)) rfl (by kernel_rfl) (by kernel_rfl) (by kernel_rfl) (fun _ _ _ h => h) (Or.inl ⟨by kernel_rfl, fun w' hw => by (go_simp)⟩) C6.out ?_
      refine wpAnyH_done (by kernel_rfl) ?_ _
      try simp only [Act.put, List.getElem_toArray, List.getElem_cons_zero, List.getElem_cons_succ, List.setIfInBounds_toArray, List.set_cons_zero, List.set_cons_succ]
      go_wp2_with (fail)
      go_ret2
      exact ⟨g, _, _, rfl, G6.out, R6.out, (KA.out.trans (Ke.of_below (Below.refl _ W3).drew)).trans ((K5.out.mono (fun i h => .inl h)).trans (K6.out.mono (fun i h => .inr h))), .inl rfl⟩
  · by_cases hd2 : d = 2
    · subst hd2
      cases hi : inV S.size f f with
      | true =>
        obtain ⟨h0, h1, h2⟩ := (in_iff _ _ _).1 hi
        obtain ⟨q, rfl⟩ : ∃ q : Nat, f = (q : Int) := ⟨f.toNat, by omega⟩
        have HQ : Hid (q ≤ S.size) := show q ≤ S.size by omega
        clear h0 h1 h2 hi
        by_cases hfull : 252 < S.size + x.size
        · have HF := hide hfull
          clear hfull
          go_upto_region 5 with (fail)
          refine wp_region_held_drew (S := fun Y => Y.cell? ⟨X, 1, none⟩ = some (.int .i64 (q : Int)) ∧ Y.cell? ⟨X, 2, none⟩ = some (.int .i64 t) ∧ Y.cell? ⟨X, 3, none⟩ = some (.string x)) (by kernel_rfl) C1.out (fun hS => ?_)
          refine wpAnyH_take (i := 0) (v := (.pointer (some ⟨g, 0, none⟩))) rfl (by kernel_rfl) (by kernel_rfl) (by kernel_rfl) (fun _ _ _ h => h) (Or.inl ⟨by kernel_rfl, fun w' hw => by (go_simp)⟩) hS ?_
          refine wpAnyH_take (i := 1) (v := (.pointer (some ⟨g, 0, none⟩))) rfl (by kernel_rfl) (by kernel_rfl) (by kernel_rfl) (fun _ _ _ h => h) (Or.inl ⟨by kernel_rfl, fun w' hw => by (go_simp)⟩) hS ?_
          refine wpAnyH_take (i := 2) (v := (.pointer (some ⟨X, 1, none⟩))) rfl (by kernel_rfl) (by kernel_rfl) (by kernel_rfl) (fun _ _ _ h => h) (Or.inl ⟨by kernel_rfl, fun w' hw => by (go_simp)⟩) hS ?_
          refine wpAnyH_take (i := 3) (v := (.int .i64 (q : Int))) rfl (by kernel_rfl) (by kernel_rfl) (by kernel_rfl) (fun _ _ _ h => h) (Or.inl ⟨by kernel_rfl, fun w' hw => by (go_simp)⟩) hS ?_
          refine wpAnyH_take (i := 4) (v := (.pointer (some ⟨X, 3, none⟩))) rfl (by kernel_rfl) (by kernel_rfl) (by kernel_rfl) (fun _ _ _ h => h) (Or.inl ⟨by kernel_rfl, fun w' hw => by (go_simp)⟩) hS ?_
          refine wpAnyH_take (i := 5) (v := (.string x)) rfl (by kernel_rfl) (by kernel_rfl) (by kernel_rfl) (fun _ _ _ h => h) (Or.inl ⟨by kernel_rfl, fun w' hw => by (go_simp)⟩) hS ?_
          refine wpAnyH_take (i := 7) (v := (.pointer (some ⟨r, 0, none⟩))) rfl (by kernel_rfl) (by kernel_rfl) (by kernel_rfl) (fun _ _ _ h => h) (Or.inl ⟨by kernel_rfl, fun w' hw => by (go_simp)⟩) hS ?_
          refine wpAnyH_take (i := 8) (v := (.pointer (some ⟨X, 1, none⟩))) rfl (by kernel_rfl) (by kernel_rfl) (by kernel_rfl) (fun _ _ _ h => h) (Or.inl ⟨by kernel_rfl, fun w' hw => by (go_simp)⟩) hS ?_
          refine wpAnyH_take (i := 9) (v := (.int .i64 (q : Int))) rfl (by kernel_rfl) (by kernel_rfl) (by kernel_rfl) (fun _ _ _ h => h) (Or.inl ⟨by kernel_rfl, fun w' hw => by (go_simp)⟩) hS ?_
          refine wpAnyH_take (i := 10) (v := (.pointer (some ⟨X, 3, none⟩))) rfl (by kernel_rfl) (by kernel_rfl) (by kernel_rfl) (fun _ _ _ h => h) (Or.inl ⟨by kernel_rfl, fun w' hw => by (go_simp)⟩) hS ?_
          refine wpAnyH_take (i := 11) (v := (.string x)) rfl (by kernel_rfl) (by kernel_rfl) (by kernel_rfl) (fun _ _ _ h => h) (Or.inl ⟨by kernel_rfl, fun w' hw => by (go_simp)⟩) hS ?_
          refine gp_go (i := 6) (by kernel_rfl) rfl (by kernel_rfl) (fun K hK => ?_)
          go_wp2_with (go_at_call 17; refine (insert_full G4.out q HQ.out x HF.out).mono ?_; rintro e W5 ⟨rfl, hb5⟩; have hk5 : Ke (fun i => i = g) W3.drew W5 := Ke.of_below hb5; have G5 := hide (G4.out.below hb5); have R5 := hide (R4.out.below hb5); have K5 := hide hk5; have X5 := hide (X4.out.below hb5); have C5 := hide X5.out.c3; clear hb5 hk5)
          refine hK.out _ _ C5.out ?_
          clear hK K
          refine gp_go (i := 12) (by kernel_rfl) rfl (by kernel_rfl) (fun K hK => ?_)
          go_wp2_with (go_at_call 34; refine (same_b (rinsert_full R5.out HZ.out q HQ.out x HF.out)).mono ?_; rintro e W6 ⟨rfl, hb6⟩; have K6 := hide (Ke.of_below hb6 : Ke (fun i => i = r) W5 W6); have G6 := hide (G5.out.below hb6); have R6 := hide (R5.out.below hb6); have C6 := hide (X5.out.below hb6).c3; clear hb6)
          refine hK.out _ _ C6.out ?_
          clear hK K
          refine wpAnyH_take (i := 13) (v := (.bool true)) rfl (by kernel_rfl) (by kernel_rfl) (by kernel_rfl) (fun _ _ _ h => h) (Or.inl ⟨by kernel_rfl, fun w' hw => by (go_simp)⟩) C6.out ?_
          refine wpAnyH_take (i := 14) (v := (.pointer (some ⟨g, 0, none⟩))) rfl (by kernel_rfl) (by kernel_rfl) (by kernel_rfl) (fun _ _ _ h => h) (Or.inl ⟨by kernel_rfl, fun w' hw => by (go_simp)⟩) C6.out ?_
          refine wpAnyH_take (i := 15) (v := (.bool true)) rfl (by kernel_rfl) (by kernel_rfl) (by kernel_rfl) (fun _ _ _ h => h) (Or.inl ⟨by kernel_rfl, fun w' hw => by (go_simp)⟩) C6.out ?_
          refine wpAnyH_done (by kernel_rfl) ?_ _
          try simp only [Act.put, List.getElem_toArray, List.getElem_cons_zero, List.getElem_cons_succ, List.setIfInBounds_toArray, List.set_cons_zero, List.set_cons_succ]
          go_wp2_with (fail)
          go_ret2
          exact ⟨g, _, _, rfl, G6.out, R6.out, (KA.out.trans (Ke.of_below (Below.refl _ W3).drew)).trans ((K5.out.mono (fun i h => .inl h)).trans (K6.out.mono (fun i h => .inr h))), .inl rfl⟩
        · have HF : Hid (S.size + x.size ≤ 252) := show S.size + x.size ≤ 252 by omega
          clear hfull
          go_upto_region 5 with (fail)
          refine wp_region_held_drew (S := fun Y => Y.cell? ⟨X, 1, none⟩ = some (.int .i64 (q : Int)) ∧ Y.cell? ⟨X, 2, none⟩ = some (.int .i64 t) ∧ Y.cell? ⟨X, 3, none⟩ = some (.string x)) (by kernel_rfl) C1.out (fun hS => ?_)
          refine wpAnyH_take (i := 0) (v := (.pointer (some ⟨g, 0, none⟩))) rfl (by kernel_rfl) (by kernel_rfl) (by kernel_rfl) (fun _ _ _ h => h) (Or.inl ⟨by kernel_rfl, fun w' hw => by (go_simp)⟩) hS ?_
          refine wpAnyH_take (i := 1) (v := (.pointer (some ⟨g, 0, none⟩))) rfl (by kernel_rfl) (by kernel_rfl) (by kernel_rfl) (fun _ _ _ h => h) (Or.inl ⟨by kernel_rfl, fun w' hw => by (go_simp)⟩) hS ?_
          refine wpAnyH_take (i := 2) (v := (.pointer (some ⟨X, 1, none⟩))) rfl (by kernel_rfl) (by kernel_rfl) (by kernel_rfl) (fun _ _ _ h => h) (Or.inl ⟨by kernel_rfl, fun w' hw => by (go_simp)⟩) hS ?_
          refine wpAnyH_take (i := 3) (v := (.int .i64 (q : Int))) rfl (by kernel_rfl) (by kernel_rfl) (by kernel_rfl) (fun _ _ _ h => h) (Or.inl ⟨by kernel_rfl, fun w' hw => by (go_simp)⟩) hS ?_
          refine wpAnyH_take (i := 4) (v := (.pointer (some ⟨X, 3, none⟩))) rfl (by kernel_rfl) (by kernel_rfl) (by kernel_rfl) (fun _ _ _ h => h) (Or.inl ⟨by kernel_rfl, fun w' hw => by (go_simp)⟩) hS ?_
          refine wpAnyH_take (i := 5) (v := (.string x)) rfl (by kernel_rfl) (by kernel_rfl) (by kernel_rfl) (fun _ _ _ h => h) (Or.inl ⟨by kernel_rfl, fun w' hw => by (go_simp)⟩) hS ?_
          refine wpAnyH_take (i := 7) (v := (.pointer (some ⟨r, 0, none⟩))) rfl (by kernel_rfl) (by kernel_rfl) (by kernel_rfl) (fun _ _ _ h => h) (Or.inl ⟨by kernel_rfl, fun w' hw => by (go_simp)⟩) hS ?_
          refine wpAnyH_take (i := 8) (v := (.pointer (some ⟨X, 1, none⟩))) rfl (by kernel_rfl) (by kernel_rfl) (by kernel_rfl) (fun _ _ _ h => h) (Or.inl ⟨by kernel_rfl, fun w' hw => by (go_simp)⟩) hS ?_
          refine wpAnyH_take (i := 9) (v := (.int .i64 (q : Int))) rfl (by kernel_rfl) (by kernel_rfl) (by kernel_rfl) (fun _ _ _ h => h) (Or.inl ⟨by kernel_rfl, fun w' hw => by (go_simp)⟩) hS ?_
          refine wpAnyH_take (i := 10) (v := (.pointer (some ⟨X, 3, none⟩))) rfl (by kernel_rfl) (by kernel_rfl) (by kernel_rfl) (fun _ _ _ h => h) (Or.inl ⟨by kernel_rfl, fun w' hw => by (go_simp)⟩) hS ?_
          refine wpAnyH_take (i := 11) (v := (.string x)) rfl (by kernel_rfl) (by kernel_rfl) (by kernel_rfl) (fun _ _ _ h => h) (Or.inl ⟨by kernel_rfl, fun w' hw => by (go_simp)⟩) hS ?_
          refine gp_go (i := 6) (by kernel_rfl) rfl (by kernel_rfl) (fun K hK => ?_)
          go_wp2_with (go_at_call 17; refine (insert_yes G4.out q HQ.out x HF.out).mono ?_; rintro e W5 ⟨rfl, hg5, hk5⟩; have G5 := hide hg5; have R5 := hide (R4.out.keep hk5 (fun e => NGR.out e.symm)); have K5 := hide hk5; have X5 := hide (X4.out.keep hk5 NXG.out); have C5 := hide X5.out.c3; clear hg5 hk5)
          refine hK.out _ _ C5.out ?_
          clear hK K
          refine gp_go (i := 12) (by kernel_rfl) rfl (by kernel_rfl) (fun K hK => ?_)
          go_wp2_with (go_at_call 34; refine (rinsert_yes R5.out HZ.out q HQ.out x HF.out).mono ?_; rintro e W6 ⟨rfl, hr6, hk6⟩; have R6 := hide hr6; have G6 := hide (G5.out.keep hk6 (fun e => NGR.out e)); have K6 := hide hk6; have C6 := hide (X5.out.keep hk6 NXR.out).c3; clear hr6 hk6)
          refine hK.out _ _ C6.out ?_
          clear hK K
          refine wpAnyH_take (i := 13) (v := (.bool true)) rfl (by kernel_rfl) (by kernel_rfl) (by kernel_rfl) (fun _ _ _ h => h) (Or.inl ⟨by kernel_rfl, fun w' hw => by (go_simp)⟩) C6.out ?_
          refine wpAnyH_take (i := 14) (v := (.pointer (some ⟨g, 0, none⟩))) rfl (by kernel_rfl) (by kernel_rfl) (by kernel_rfl) (fun _ _ _ h => h) (Or.inl ⟨by kernel_rfl, fun w' hw => by (go_simp)⟩) C6.out ?_
          refine wpAnyH_take (i := 15) (v := (.bool true)) rfl (by kernel_rfl) (by kernel_rfl) (by kernel_rfl) (fun _ _ _ h => h) (Or.inl ⟨by kernel_rfl, fun w' hw => by (go_simp)⟩) C6.out ?_
          refine wpAnyH_done (by kernel_rfl) ?_ _
          try simp only [Act.put, List.getElem_toArray, List.getElem_cons_zero, List.getElem_cons_succ, List.setIfInBounds_toArray, List.set_cons_zero, List.set_cons_succ]
          go_wp2_with (fail)
          go_ret2
          exact ⟨g, _, _, rfl, G6.out, R6.out, (KA.out.trans (Ke.of_below (Below.refl _ W3).drew)).trans ((K5.out.mono (fun i h => .inl h)).trans (K6.out.mono (fun i h => .inr h))), .inl rfl⟩
      | false =>
        have HI := hide hi
        clear hi
        go_upto_region 5 with (fail)
        refine wp_region_held_drew (S := fun Y => Y.cell? ⟨X, 1, none⟩ = some (.int .i64 f) ∧ Y.cell? ⟨X, 2, none⟩ = some (.int .i64 t) ∧ Y.cell? ⟨X, 3, none⟩ = some (.string x)) (by kernel_rfl) C1.out (fun hS => ?_)
        refine wpAnyH_take (i := 0) (v := (.pointer (some ⟨g, 0, none⟩))) rfl (by kernel_rfl) (by kernel_rfl) (by kernel_rfl) (fun _ _ _ h => h) (Or.inl ⟨by kernel_rfl, fun w' hw => by (go_simp)⟩) hS ?_
        refine wpAnyH_take (i := 1) (v := (.pointer (some ⟨g, 0, none⟩))) rfl (by kernel_rfl) (by kernel_rfl) (by kernel_rfl) (fun _ _ _ h => h) (Or.inl ⟨by kernel_rfl, fun w' hw => by (go_simp)⟩) hS ?_
        refine wpAnyH_take (i := 2) (v := (.pointer (some ⟨X, 1, none⟩))) rfl (by kernel_rfl) (by kernel_rfl) (by kernel_rfl) (fun _ _ _ h => h) (Or.inl ⟨by kernel_rfl, fun w' hw => by (go_simp)⟩) hS ?_
        refine wpAnyH_take (i := 3) (v := (.int .i64 f)) rfl (by kernel_rfl) (by kernel_rfl) (by kernel_rfl) (fun _ _ _ h => h) (Or.inl ⟨by kernel_rfl, fun w' hw => by (go_simp)⟩) hS ?_
        refine wpAnyH_take (i := 4) (v := (.pointer (some ⟨X, 3, none⟩))) rfl (by kernel_rfl) (by kernel_rfl) (by kernel_rfl) (fun _ _ _ h => h) (Or.inl ⟨by kernel_rfl, fun w' hw => by (go_simp)⟩) hS ?_
        refine wpAnyH_take (i := 5) (v := (.string x)) rfl (by kernel_rfl) (by kernel_rfl) (by kernel_rfl) (fun _ _ _ h => h) (Or.inl ⟨by kernel_rfl, fun w' hw => by (go_simp)⟩) hS ?_
        refine wpAnyH_take (i := 7) (v := (.pointer (some ⟨r, 0, none⟩))) rfl (by kernel_rfl) (by kernel_rfl) (by kernel_rfl) (fun _ _ _ h => h) (Or.inl ⟨by kernel_rfl, fun w' hw => by (go_simp)⟩) hS ?_
        refine wpAnyH_take (i := 8) (v := (.pointer (some ⟨X, 1, none⟩))) rfl (by kernel_rfl) (by kernel_rfl) (by kernel_rfl) (fun _ _ _ h => h) (Or.inl ⟨by kernel_rfl, fun w' hw => by (go_simp)⟩) hS ?_
        refine wpAnyH_take (i := 9) (v := (.int .i64 f)) rfl (by kernel_rfl) (by kernel_rfl) (by kernel_rfl) (fun _ _ _ h => h) (Or.inl ⟨by kernel_rfl, fun w' hw => by (go_simp)⟩) hS ?_
        refine wpAnyH_take (i := 10) (v := (.pointer (some ⟨X, 3, none⟩))) rfl (by kernel_rfl) (by kernel_rfl) (by kernel_rfl) (fun _ _ _ h => h) (Or.inl ⟨by kernel_rfl, fun w' hw => by (go_simp)⟩) hS ?_
        refine wpAnyH_take (i := 11) (v := (.string x)) rfl (by kernel_rfl) (by kernel_rfl) (by kernel_rfl) (fun _ _ _ h => h) (Or.inl ⟨by kernel_rfl, fun w' hw => by (go_simp)⟩) hS ?_
        refine gp_go (i := 6) (by kernel_rfl) rfl (by kernel_rfl) (fun K hK => ?_)
        go_wp2_with (go_at_call 17; refine (insert_no G4.out f x HI.out).mono ?_; rintro e W5 ⟨rfl, hb5⟩; have hk5 : Ke (fun i => i = g) W3.drew W5 := Ke.of_below hb5; have G5 := hide (G4.out.below hb5); have R5 := hide (R4.out.below hb5); have K5 := hide hk5; have X5 := hide (X4.out.below hb5); have C5 := hide X5.out.c3; clear hb5 hk5)
        refine hK.out _ _ C5.out ?_
        clear hK K
        refine gp_go (i := 12) (by kernel_rfl) rfl (by kernel_rfl) (fun K hK => ?_)
        go_wp2_with (go_at_call 34; refine (same_b (rinsert_no R5.out HZ.out f x HI.out)).mono ?_; rintro e W6 ⟨rfl, hb6⟩; have K6 := hide (Ke.of_below hb6 : Ke (fun i => i = r) W5 W6); have G6 := hide (G5.out.below hb6); have R6 := hide (R5.out.below hb6); have C6 := hide (X5.out.below hb6).c3; clear hb6)
        refine hK.out _ _ C6.out ?_
        clear hK K
        refine wpAnyH_take (i := 13) (v := (.bool true)) rfl (by kernel_rfl) (by kernel_rfl) (by kernel_rfl) (fun _ _ _ h => h) (Or.inl ⟨by kernel_rfl, fun w' hw => by (go_simp)⟩) C6.out ?_
        refine wpAnyH_take (i := 14) (v := (.pointer (some ⟨g, 0, none⟩))) rfl (by kernel_rfl) (by kernel_rfl) (by kernel_rfl) (fun _ _ _ h => h) (Or.inl ⟨by kernel_rfl, fun w' hw => by (go_simp)⟩) C6.out ?_
        refine wpAnyH_take (i := 15) (v := (.bool true)) rfl (by kernel_rfl) (by kernel_rfl) (by kernel_rfl) (fun _ _ _ h => h) (Or.inl ⟨by kernel_rfl, fun w' hw => by (go_simp)⟩) C6.out ?_
        refine wpAnyH_done (by kernel_rfl) ?_ _
        try simp only [Act.put, List.getElem_toArray, List.getElem_cons_zero, List.getElem_cons_succ, List.setIfInBounds_toArray, List.set_cons_zero, List.set_cons_succ]
        go_wp2_with (fail)
        go_ret2
        exact ⟨g, _, _, rfl, G6.out, R6.out, (KA.out.trans (Ke.of_below (Below.refl _ W3).drew)).trans ((K5.out.mono (fun i h => .inl h)).trans (K6.out.mono (fun i h => .inr h))), .inl rfl⟩
    · by_cases hd3 : d = 3
      · subst hd3
        cases hi : inV S.size f t with
        | true =>
          obtain ⟨h0, h1, h2⟩ := (in_iff _ _ _).1 hi
          obtain ⟨q, rfl⟩ : ∃ q : Nat, f = (q : Int) := ⟨f.toNat, by omega⟩
          obtain ⟨u, rfl⟩ : ∃ u : Nat, t = (u : Int) := ⟨t.toNat, by omega⟩
          have HQ : Hid (q ≤ u) := show q ≤ u by omega
          have HU : Hid (u ≤ S.size) := show u ≤ S.size by omega
          clear h0 h1 h2 hi
          go_upto_region 7 with (fail)
          refine wp_region_held_drew (S := fun Y => Y.cell? ⟨X, 1, none⟩ = some (.int .i64 (q : Int)) ∧ Y.cell? ⟨X, 2, none⟩ = some (.int .i64 (u : Int)) ∧ Y.cell? ⟨X, 3, none⟩ = some (.string x)) (by kernel_rfl) C1.out (fun hS => ?_)
          refine wpAnyH_take (i := 0) (v := (.pointer (some ⟨g, 0, none⟩))) rfl (by kernel_rfl) (by kernel_rfl) (by kernel_rfl) (fun _ _ _ h => h) (Or.inl ⟨by kernel_rfl, fun w' hw => by (go_simp)⟩) hS ?_
          refine wpAnyH_take (i := 1) (v := (.pointer (some ⟨g, 0, none⟩))) rfl (by kernel_rfl) (by kernel_rfl) (by kernel_rfl) (fun _ _ _ h => h) (Or.inl ⟨by kernel_rfl, fun w' hw => by (go_simp)⟩) hS ?_
          refine wpAnyH_take (i := 2) (v := (.pointer (some ⟨X, 1, none⟩))) rfl (by kernel_rfl) (by kernel_rfl) (by kernel_rfl) (fun _ _ _ h => h) (Or.inl ⟨by kernel_rfl, fun w' hw => by (go_simp)⟩) hS ?_
          refine wpAnyH_take (i := 3) (v := (.int .i64 (q : Int))) rfl (by kernel_rfl) (by kernel_rfl) (by kernel_rfl) (fun _ _ _ h => h) (Or.inl ⟨by kernel_rfl, fun w' hw => by (go_simp)⟩) hS ?_
          refine wpAnyH_take (i := 4) (v := (.pointer (some ⟨X, 2, none⟩))) rfl (by kernel_rfl) (by kernel_rfl) (by kernel_rfl) (fun _ _ _ h => h) (Or.inl ⟨by kernel_rfl, fun w' hw => by (go_simp)⟩) hS ?_
          refine wpAnyH_take (i := 5) (v := (.int .i64 (u : Int))) rfl (by kernel_rfl) (by kernel_rfl) (by kernel_rfl) (fun _ _ _ h => h) (Or.inl ⟨by kernel_rfl, fun w' hw => by (go_simp)⟩) hS ?_
          refine wpAnyH_take (i := 7) (v := (.pointer (some ⟨r, 0, none⟩))) rfl (by kernel_rfl) (by kernel_rfl) (by kernel_rfl) (fun _ _ _ h => h) (Or.inl ⟨by kernel_rfl, fun w' hw => by (go_simp)⟩) hS ?_
          refine wpAnyH_take (i := 8) (v := (.pointer (some ⟨X, 1, none⟩))) rfl (by kernel_rfl) (by kernel_rfl) (by kernel_rfl) (fun _ _ _ h => h) (Or.inl ⟨by kernel_rfl, fun w' hw => by (go_simp)⟩) hS ?_
          refine wpAnyH_take (i := 9) (v := (.int .i64 (q : Int))) rfl (by kernel_rfl) (by kernel_rfl) (by kernel_rfl) (fun _ _ _ h => h) (Or.inl ⟨by kernel_rfl, fun w' hw => by (go_simp)⟩) hS ?_
          refine wpAnyH_take (i := 10) (v := (.pointer (some ⟨X, 2, none⟩))) rfl (by kernel_rfl) (by kernel_rfl) (by kernel_rfl) (fun _ _ _ h => h) (Or.inl ⟨by kernel_rfl, fun w' hw => by (go_simp)⟩) hS ?_
          refine wpAnyH_take (i := 11) (v := (.int .i64 (u : Int))) rfl (by kernel_rfl) (by kernel_rfl) (by kernel_rfl) (fun _ _ _ h => h) (Or.inl ⟨by kernel_rfl, fun w' hw => by (go_simp)⟩) hS ?_
          refine gp_go (i := 6) (by kernel_rfl) rfl (by kernel_rfl) (fun K hK => ?_)
          go_wp2_with (go_at_call 18; refine (delete_yes G4.out q u HQ.out HU.out).mono ?_; rintro e W5 ⟨rfl, hg5, hk5⟩; have G5 := hide hg5; have R5 := hide (R4.out.keep hk5 (fun e => NGR.out e.symm)); have K5 := hide hk5; have X5 := hide (X4.out.keep hk5 NXG.out); have C5 := hide X5.out.c3; clear hg5 hk5)
          refine hK.out _ _ C5.out ?_
          clear hK K
          refine gp_go (i := 12) (by kernel_rfl) rfl (by kernel_rfl) (fun K hK => ?_)
          go_wp2_with (go_at_call 35; refine (rdelete_yes R5.out HZ.out q u HQ.out HU.out).mono ?_; rintro e W6 ⟨rfl, hr6, hk6⟩; have R6 := hide hr6; have G6 := hide (G5.out.keep hk6 (fun e => NGR.out e)); have K6 := hide hk6; have C6 := hide (X5.out.keep hk6 NXR.out).c3; clear hr6 hk6)
          refine hK.out _ _ C6.out ?_
          clear hK K
          refine wpAnyH_take (i := 13) (v := (.bool true)) rfl (by kernel_rfl) (by kernel_rfl) (by kernel_rfl) (fun _ _ _ h => h) (Or.inl ⟨by kernel_rfl, fun w' hw => by (go_simp)⟩) C6.out ?_
          refine wpAnyH_take (i := 14) (v := (.pointer (some ⟨g, 0, none⟩))) rfl (by kernel_rfl) (by kernel_rfl) (by kernel_rfl) (fun _ _ _ h => h) (Or.inl ⟨by kernel_rfl, fun w' hw => by (go_simp)⟩) C6.out ?_
          refine wpAnyH_take (i := 15) (v := (.bool true)) rfl (by kernel_rfl) (by kernel_rfl) (by kernel_rfl) (fun _ _ _ h => h) (Or.inl ⟨by kernel_rfl, fun w' hw => by (go_simp)⟩) C6.out ?_
          refine wpAnyH_done (by kernel_rfl) ?_ _
          try simp only [Act.put, List.getElem_toArray, List.getElem_cons_zero, List.getElem_cons_succ, List.setIfInBounds_toArray, List.set_cons_zero, List.set_cons_succ]
          go_wp2_with (fail)
          go_ret2
          exact ⟨g, _, _, rfl, G6.out, R6.out, (KA.out.trans (Ke.of_below (Below.refl _ W3).drew)).trans ((K5.out.mono (fun i h => .inl h)).trans (K6.out.mono (fun i h => .inr h))), .inl rfl⟩
        | false =>
          have HI := hide hi
          clear hi
          go_upto_region 7 with (fail)
          refine wp_region_held_drew (S := fun Y => Y.cell? ⟨X, 1, none⟩ = some (.int .i64 f) ∧ Y.cell? ⟨X, 2, none⟩ = some (.int .i64 t) ∧ Y.cell? ⟨X, 3, none⟩ = some (.string x)) (by kernel_rfl) C1.out (fun hS => ?_)
          refine wpAnyH_take (i := 0) (v := (.pointer (some ⟨g, 0, none⟩))) rfl (by kernel_rfl) (by kernel_rfl) (by kernel_rfl) (fun _ _ _ h => h) (Or.inl ⟨by kernel_rfl, fun w' hw => by (go_simp)⟩) hS ?_
          refine wpAnyH_take (i := 1) (v := (.pointer (some ⟨g, 0, none⟩))) rfl (by kernel_rfl) (by kernel_rfl) (by kernel_rfl) (fun _ _ _ h => h) (Or.inl ⟨by kernel_rfl, fun w' hw => by (go_simp)⟩) hS ?_
          refine wpAnyH_take (i := 2) (v := (.pointer (some ⟨X, 1, none⟩))) rfl (by kernel_rfl) (by kernel_rfl) (by kernel_rfl) (fun _ _ _ h => h) (Or.inl ⟨by kernel_rfl, fun w' hw => by (go_simp)⟩) hS ?_
          refine wpAnyH_take (i := 3) (v := (.int .i64 f)) rfl (by kernel_rfl) (by kernel_rfl) (by kernel_rfl) (fun _ _ _ h => h) (Or.inl ⟨by kernel_rfl, fun w' hw => by (go_simp)⟩) hS ?_
          refine wpAnyH_take (i := 4) (v := (.pointer (some ⟨X, 2, none⟩))) rfl (by kernel_rfl) (by kernel_rfl) (by kernel_rfl) (fun _ _ _ h => h) (Or.inl ⟨by kernel_rfl, fun w' hw => by (go_simp)⟩) hS ?_
          refine wpAnyH_take (i := 5) (v := (.int .i64 t)) rfl (by kernel_rfl) (by kernel_rfl) (by kernel_rfl) (fun _ _ _ h => h) (Or.inl ⟨by kernel_rfl, fun w' hw => by (go_simp)⟩) hS ?_
          refine wpAnyH_take (i := 7) (v := (.pointer (some ⟨r, 0, none⟩))) rfl (by kernel_rfl) (by kernel_rfl) (by kernel_rfl) (fun _ _ _ h => h) (Or.inl ⟨by kernel_rfl, fun w' hw => by (go_simp)⟩) hS ?_
          refine wpAnyH_take (i := 8) (v := (.pointer (some ⟨X, 1, none⟩))) rfl (by kernel_rfl) (by kernel_rfl) (by kernel_rfl) (fun _ _ _ h => h) (Or.inl ⟨by kernel_rfl, fun w' hw => by (go_simp)⟩) hS ?_
          refine wpAnyH_take (i := 9) (v := (.int .i64 f)) rfl (by kernel_rfl) (by kernel_rfl) (by kernel_rfl) (fun _ _ _ h => h) (Or.inl ⟨by kernel_rfl, fun w' hw => by (go_simp)⟩) hS ?_
          refine wpAnyH_take (i := 10) (v := (.pointer (some ⟨X, 2, none⟩))) rfl (by kernel_rfl) (by kernel_rfl) (by kernel_rfl) (fun _ _ _ h => h) (Or.inl ⟨by kernel_rfl, fun w' hw => by (go_simp)⟩) hS ?_
          refine wpAnyH_take (i := 11) (v := (.int .i64 t)) rfl (by kernel_rfl) (by kernel_rfl) (by kernel_rfl) (fun _ _ _ h => h) (Or.inl ⟨by kernel_rfl, fun w' hw => by (go_simp)⟩) hS ?_
          refine gp_go (i := 6) (by kernel_rfl) rfl (by kernel_rfl) (fun K hK => ?_)
          go_wp2_with (go_at_call 18; refine (delete_no G4.out f t HI.out).mono ?_; rintro e W5 ⟨rfl, hb5⟩; have hk5 : Ke (fun i => i = g) W3.drew W5 := Ke.of_below hb5; have G5 := hide (G4.out.below hb5); have R5 := hide (R4.out.below hb5); have K5 := hide hk5; have X5 := hide (X4.out.below hb5); have C5 := hide X5.out.c3; clear hb5 hk5)
          refine hK.out _ _ C5.out ?_
          clear hK K
          refine gp_go (i := 12) (by kernel_rfl) rfl (by kernel_rfl) (fun K hK => ?_)
          go_wp2_with (go_at_call 35; refine (same_b (rdelete_no R5.out HZ.out f t HI.out)).mono ?_; rintro e W6 ⟨rfl, hb6⟩; have K6 := hide (Ke.of_below hb6 : Ke (fun i => i = r) W5 W6); have G6 := hide (G5.out.below hb6); have R6 := hide (R5.out.below hb6); have C6 := hide (X5.out.below hb6).c3; clear hb6)
          refine hK.out _ _ C6.out ?_
          clear hK K
          refine wpAnyH_take (i := 13) (v := (.bool true)) rfl (by kernel_rfl) (by kernel_rfl) (by kernel_rfl) (fun _ _ _ h => h) (Or.inl ⟨by kernel_rfl, fun w' hw => by (go_simp)⟩) C6.out ?_
          refine wpAnyH_take (i := 14) (v := (.pointer (some ⟨g, 0, none⟩))) rfl (by kernel_rfl) (by kernel_rfl) (by kernel_rfl) (fun _ _ _ h => h) (Or.inl ⟨by kernel_rfl, fun w' hw => by (go_simp)⟩) C6.out ?_
          refine wpAnyH_take (i := 15) (v := (.bool true)) rfl (by kernel_rfl) (by kernel_rfl) (by kernel_rfl) (fun _ _ _ h => h) (Or.inl ⟨by kernel_rfl, fun w' hw => by (go_simp)⟩) C6.out ?_
          refine wpAnyH_done (by kernel_rfl) ?_ _
          try simp only [Act.put, List.getElem_toArray, List.getElem_cons_zero, List.getElem_cons_succ, List.setIfInBounds_toArray, List.set_cons_zero, List.set_cons_succ]
          go_wp2_with (fail)
          go_ret2
          exact ⟨g, _, _, rfl, G6.out, R6.out, (KA.out.trans (Ke.of_below (Below.refl _ W3).drew)).trans ((K5.out.mono (fun i h => .inl h)).trans (K6.out.mono (fun i h => .inr h))), .inl rfl⟩
      · by_cases hd4 : d = 4
        · subst hd4
          cases hi : inV S.size f t with
          | true =>
            obtain ⟨h0, h1, h2⟩ := (in_iff _ _ _).1 hi
            obtain ⟨q, rfl⟩ : ∃ q : Nat, f = (q : Int) := ⟨f.toNat, by omega⟩
            obtain ⟨u, rfl⟩ : ∃ u : Nat, t = (u : Int) := ⟨t.toNat, by omega⟩
            have HQ : Hid (q ≤ u) := show q ≤ u by omega
            have HU : Hid (u ≤ S.size) := show u ≤ S.size by omega
            clear h0 h1 h2 hi
            go_wp2_with (first
              | (go_at_call 31; refine (slice_yes G3.out q u HQ.out HU.out).mono ?_; rintro e W5 ⟨rfl, hb5⟩; have G5 := hide (G3.out.below hb5); have R5 := hide (R3.out.below hb5); have B5 := hide hb5; obtain ⟨c1, c2, c3⟩ := (X3.out.below hb5).c3; clear hb5)
              | (go_at_call 36; refine (rslice_yes R5.out HZ.out q u HQ.out HU.out).mono ?_; rintro e W6 ⟨rfl, rfl⟩))
            go_ret2
            exact ⟨g, _, _, rfl, G5.out, R5.out, KA.out.trans (Ke.of_below B5.out), .inl rfl⟩
          | false =>
            have HI := hide hi
            clear hi
            go_wp2_with (first
              | (go_at_call 31; refine (slice_no G3.out f t HI.out).mono ?_; rintro e W5 ⟨rfl, hb5⟩; have G5 := hide (G3.out.below hb5); have R5 := hide (R3.out.below hb5); have B5 := hide hb5; obtain ⟨c1, c2, c3⟩ := (X3.out.below hb5).c3; clear hb5)
              | (go_at_call 36; refine (rslice_no R5.out HZ.out f t HI.out).mono ?_; rintro e W6 ⟨rfl, rfl⟩))
            go_ret2
            exact ⟨g, _, _, rfl, G5.out, R5.out, KA.out.trans (Ke.of_below B5.out), .inl rfl⟩
        · have KB := hide (block_any G3.out)
          go_wp2_with (first
            | (go_at_call 24; refine (KB.out).mono ?_; rintro e W5 ⟨P, rfl, ho5, hn5, hb5⟩; have O5 := hide ho5; have N5 := hide hn5; have R5 := hide (R3.out.below hb5); have B5 := hide hb5; clear ho5 hn5 hb5 KB; have KO := hide (open_yes P 0 256 S p HP.out HZ.out (O5.out.sl (blk_lt S p)) (by decide)))
            | (go_at_call 26; refine (KO.out).mono ?_; rintro e W6 ⟨h, rfl, hg6, hn6, hb6⟩; have G6 := hide hg6; have N6 := hide (Nat.le_trans B5.out.size hn6); have R6 := hide (R5.out.below hb6); have O6 := hide (O5.out.below hb6 O5.out.lt); have B6 := hide (bseq B5.out hb6); clear hg6 hn6 hb6 KO))
          have hL : Any8 W6 P := ⟨_, O6.out, by rw [List.size_toArray, List.length_map]; exact blk_len HP.out HZ.out, fun i hi => ⟨_, by
            have hx : (blk S p)[i]? = some _ := List.getElem?_eq_getElem (by rw [blk_len HP.out HZ.out]; exact hi)
            rw [List.getElem?_toArray, List.getElem?_map, hx]
            rfl⟩⟩
          have L6 := hide hL
          clear hL
          go_loopw [15] (fun iv wr => ∃ k : Nat, k ≤ 256 ∧ iv = .int .i64 (k : Int) ∧ Any8 wr P ∧ GapL wr h S p ∧ RefG wr r S p ∧ Below W3.heap.size W3 wr) (fun iv _ => (256 - intOf iv).toNat)
          case atStart => exact ⟨0, by omega, rfl, L6.out, G6.out, R6.out, B6.out⟩
          case round =>
            obtain ⟨k, hk, rfl, hl, hg, hr, hb⟩ := hrel
            have L7 := hide hl
            have G7 := hide hg
            have R7 := hide hr
            have B7 := hide hb
            clear hl hg hr hb
            by_cases hlt : k < 256
            · have hltI : (k : Int) < 256 := by omega
              obtain ⟨n, cx, fx⟩ := L7.out.at hlt
              have NP : ∀ v, Any8 (wr.setCell ⟨P, k, none⟩ (.int .u8 v)) P ∧ GapL (wr.setCell ⟨P, k, none⟩ (.int .u8 v)) h S p ∧ RefG (wr.setCell ⟨P, k, none⟩ (.int .u8 v)) r S p ∧ Below W3.heap.size W3 (wr.setCell ⟨P, k, none⟩ (.int .u8 v)) := fun v => by
                have kk := Ke.set (X := fun i => i = P) wr P k (.int .u8 v) rfl
                exact ⟨L7.out.set hlt v, G7.out.keep kk (fun e => L7.out.no_gap (e ▸ G7.out)), R7.out.keep kk (fun e => L7.out.no_ref (e ▸ R7.out)), B7.out.trans (kk.below (B := W3.heap.size) B7.out.size (fun i hi => by have := N5.out; omega))⟩
              have NP := hide NP
              go_wp2_with (fail)
              go_roundw
              case rel => obtain ⟨h1, h2, h3, h4⟩ := NP.out _; exact ⟨k + 1, by omega, by go_num, h1, h2, h3, h4⟩
              case measure => simp [intOf]; omega
            · obtain rfl : k = 256 := by omega
              go_wp2_with (fail)
              go_ret2
              exact ⟨h, _, _, rfl, G7.out, R7.out, KA.out.trans (Ke.of_below B7.out), .inr (Nat.le_trans KA.out.size N6.out)⟩
end Go.Proofs.Ytheefdplbmneeaa
