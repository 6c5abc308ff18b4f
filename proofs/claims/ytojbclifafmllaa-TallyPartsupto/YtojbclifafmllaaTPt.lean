/- What tally.Parts answers, of a text and places that rise: the tallies of the pieces, in memory of its own. -/
import Derived.Test.YtojbclifafmllaaTPl
namespace Go.Proofs.Ytojbclifafmllaa
open Go.RowKit
set_option linter.unusedVariables false

/-- The tally of a text. -/
def ofT (s : ByteArray) : (Int × Int × Int × ByteArray × ByteArray) := (s.size, chn (bl s), lin (bl s), hd s, tl s)
/-- The cells of tallies, one behind the other. -/
def tC (x : (Int × Int × Int × ByteArray × ByteArray)) : List Value := [.int .i64 x.1, .int .i64 x.2.1, .int .i64 x.2.2.1, .string x.2.2.2.1, .string x.2.2.2.2]
def tCs (xs : List (Int × Int × Int × ByteArray × ByteArray)) : List Value := xs.flatMap tC
theorem tCs_len (xs : List (Int × Int × Int × ByteArray × ByteArray)) : (tCs xs).length = xs.length * 5 := by
  unfold tCs
  induction xs with
  | nil => rfl
  | cons x xs ih => rw [List.flatMap_cons, List.length_append, ih, List.length_cons]; show 5 + _ = _; omega
theorem tCs_snoc (xs : List (Int × Int × Int × ByteArray × ByteArray)) (x : (Int × Int × Int × ByteArray × ByteArray)) : tCs (xs ++ [x]) = tCs xs ++ tC x := by
  unfold tCs
  rw [List.flatMap_append]
  simp
theorem tCs_get (xs : List (Int × Int × Int × ByteArray × ByteArray)) : ∀ (i : Nat) (x : (Int × Int × Int × ByteArray × ByteArray)), xs[i]? = some x → ∀ j, j < 5 → (tCs xs)[i * 5 + j]? = (tC x)[j]? := by
  induction xs with
  | nil => intro i x h; simp at h
  | cons y ys ih =>
    intro i x h j hj
    show (tC y ++ tCs ys)[i * 5 + j]? = _
    match i, h with
    | 0, h =>
      simp at h
      subst h
      rw [List.getElem?_append_left (by show 0 * 5 + j < 5; omega)]
      congr 1
      omega
    | i + 1, h =>
      rw [List.getElem?_append_right (by show 5 ≤ _; omega)]
      have := ih i x (by simpa using h) j hj
      rw [← this]
      congr 1
      show (i + 1) * 5 + j - 5 = _
      omega
/-- What a row of tallies of the call's own holds. -/
theorem slt_of_owns {W : World} {base g n cap : Nat} {xs : List (Int × Int × Int × ByteArray × ByteArray)} (h : W.ownsRow base 24 5 (.slice (some ⟨g, 0, none⟩) n cap) n (tCs xs)) (hn : n = xs.length) : SlT W (some ⟨g, 0, none⟩) xs := by
  rcases h.2 with ⟨h1, _⟩ | ⟨g', cap', cur, hv, _, hg, hnc, _, hs, hc⟩
  · cases h1
  · cases hv
    refine .inr ⟨g, 0, rfl, (Array.getElem?_eq_some_iff.1 hg).1, fun i x hx => ?_⟩
    have hi : i < xs.length := (List.getElem?_eq_some_iff.1 hx).1
    have key : ∀ j (v : Value), j < 5 → (tC x)[j]? = some v → W.cell? ⟨g, 0 + i * 5 + j, none⟩ = some v := by
      intro j v hj hv
      have h1 := tCs_get xs i x hx j hj
      rw [hv, ← hc, List.getElem?_take, if_pos (by omega)] at h1
      refine cell_of hg _ _ ?_
      rw [Nat.zero_add]
      simpa using h1
    exact ⟨key 0 _ (by omega) rfl, key 1 _ (by omega) rfl, key 2 _ (by omega) rfl, key 3 _ (by omega) rfl, key 4 _ (by omega) rfl⟩

/-- The pieces of a text between places. -/
def pieces (s : ByteArray) : Nat → List Nat → List ByteArray
  | f, [] => [s.extract f s.size]
  | f, p :: ps => s.extract f p :: pieces s p ps
theorem pieces_len (s : ByteArray) : ∀ f ps, (pieces s f ps).length = ps.length + 1 := by
  intro f ps
  induction ps generalizing f with
  | nil => rfl
  | cons p ps ih => show _ + 1 = _ + 1 + 1; rw [ih]
theorem Rise.drop {n : Nat} : ∀ {f : Nat} {ps : List Nat} (k : Nat), Rise n f ps → ∀ f', (k = 0 ∧ f' = f ∨ 0 < k ∧ ps[k - 1]? = some f') → Rise n f' (ps.drop k) := by
  intro f ps k
  induction k generalizing f ps with
  | zero =>
    intro h f' hc
    rcases hc with ⟨_, rfl⟩ | ⟨h0, _⟩
    · exact h
    · omega
  | succ k ih =>
    intro h f' hc
    rcases hc with ⟨h0, _⟩ | ⟨_, hc⟩
    · omega
    · cases ps with
      | nil => simp at hc
      | cons p ps =>
        refine ih h.2.2 f' ?_
        by_cases hk : k = 0
        · subst hk; simp at hc; exact .inl ⟨rfl, hc.symm⟩
        · refine .inr ⟨by omega, ?_⟩
          rw [show k + 1 - 1 = (k - 1) + 1 by omega] at hc
          simpa using hc

theorem Try.infoT : (Try.prog.info? 24).map (fun i => (i.zero, i.size, i.bytes)) = some (some (.agg #[.int .i64 0, .int .i64 0, .int .i64 0, .string ⟨#[]⟩, .string ⟨#[]⟩]), 5, 56) := by kernel_rfl
theorem row_cells (W : World) (x : (Int × Int × Int × ByteArray × ByteArray)) : ∀ j u, (tC x)[j]? = some u → (W.alloc (.cells #[.int .i64 x.1, .int .i64 x.2.1, .int .i64 x.2.2.1, .string x.2.2.2.1, .string x.2.2.2.2] 24)).cell? ((⟨W.heap.size, 0, none⟩ : Addr).add j) = some u := by
  intro j u hu
  have h0 := heap_alloc_new W (.cells #[.int .i64 x.1, .int .i64 x.2.1, .int .i64 x.2.2.1, .string x.2.2.2.1, .string x.2.2.2.2] 24)
  have e : (⟨W.heap.size, 0, none⟩ : Addr).add j = ⟨W.heap.size, j, none⟩ := by unfold Addr.add; simp; try omega
  rw [e]
  exact cell_of h0 j u (by simpa [tC] using hu)
theorem tC_one (x : (Int × Int × Int × ByteArray × ByteArray)) : ∀ u ∈ tC x, u.oneCell' = true := by
  intro u hu
  unfold tC at hu
  simp only [List.mem_cons, List.not_mem_nil, or_false] at hu
  rcases hu with rfl | rfl | rfl | rfl | rfl <;> rfl

theorem ownsRow_bel {W W' : World} {base : Nat} {e : TypeId} {size : Nat} {v : Value} {k : Nat} {xs : List Value} (h : W.ownsRow base e size v k xs) (hb : Below W.heap.size W W') : W'.ownsRow base e size v k xs := by
  refine ⟨h.1, ?_⟩
  rcases h.2 with h2 | ⟨g, cap, cur, hv, hg, hh, r⟩
  · exact .inl h2
  · exact .inr ⟨g, cap, cur, hv, hg, (hb.block g (Array.getElem?_eq_some_iff.1 hh).1).trans hh, r⟩

set_option maxHeartbeats 2000000 in
theorem parts_any (s : ByteArray) (a : Option Addr) (cap : Nat) (ps : List Nat) (w : World) (hz : SlI w a (ps.map (fun (p : Nat) => (p : Int)))) (hr : Rise s.size 0 ps) (hs : s.size ≤ 1048576) (hl : ps.length ≤ 1048576) :
    Calls Try.prog 14 #[.string s, .slice a ps.length cap] w fun e w' => ∃ g, e = .returned (.tuple #[.slice (some ⟨g, 0, none⟩) (ps.length + 1) (ps.length + 1), .int .i64 0]) ∧ w'.ownsRow w.heap.size 24 5 (.slice (some ⟨g, 0, none⟩) (ps.length + 1) (ps.length + 1)) (ps.length + 1) (tCs ((pieces s 0 ps).map ofT)) ∧ Below w.heap.size w w' := by
  obtain ⟨i0, hi, hz0, hz1, hz2⟩ := info_parts Try.infoT
  have hlm : (ps.map (fun (p : Nat) => (p : Int))).length = ps.length := by simp
  obtain ⟨n, hn⟩ : ∃ n, n = ps.length := ⟨_, rfl⟩
  have hw1 : IntKind.i64.wrap ((n : Int) + 1) = (n : Int) + 1 := by rw [IntKind.wrap_i64]; omega
  have hmk : ∀ w, Sem.run Try.prog (Instr.makeSlice 31 (.int .i64 0) (.int .i64 ((n : Int) + 1))) w = .ok (.slice (some ⟨w.heap.size, 0, none⟩) 0 (n + 1)) (w.alloc (.cells (madeCells (Value.cells (.agg #[.int .i64 0, .int .i64 0, .int .i64 0, .string ⟨#[]⟩, .string ⟨#[]⟩])) ((n + 1) * 5)) 24)) := fun w => by
    have h := run_make (P := Try.prog) w 31 24 i0 (.agg #[.int .i64 0, .int .i64 0, .int .i64 0, .string ⟨#[]⟩, .string ⟨#[]⟩]) Try.underlying31 hi hz0 .i64 .i64 0 ((n : Int) + 1) (by omega) (by omega) (by rw [hz2]; omega) (by omega)
    rw [hz1] at h
    exact h
  have HZ := hide hz
  have HR := hide hr
  have HN := hide hn
  rw [← hn]
  clear hz hr
  have hln : n ≤ 1048576 := by omega
  have hO0 : (w.alloc (.cells (madeCells (Value.cells (.agg #[.int .i64 0, .int .i64 0, .int .i64 0, .string ⟨#[]⟩, .string ⟨#[]⟩])) ((n + 1) * 5)) 24)).ownsRow w.heap.size 24 5 (.slice (some ⟨w.heap.size, 0, none⟩) 0 (n + 1)) 0 [] :=
    World.ownsRow_made w _ (n + 1) (Nat.le_refl _) (by unfold maxLen; omega) (by rw [size_madeCells])
  have hB0 : Below w.heap.size w (w.alloc (.cells (madeCells (Value.cells (.agg #[.int .i64 0, .int .i64 0, .int .i64 0, .string ⟨#[]⟩, .string ⟨#[]⟩])) ((n + 1) * 5)) 24)) := (Below.refl _ w).alloc (Nat.le_refl _) _
  have HO0 := hide hO0
  have HB0 := hide hB0
  clear hO0 hB0 hn hlm hl
  go_enter Try.func14, Try.ntmps14
  go_wp2_with (fail)
  clear hmk
  go_loopw [6, 7, 16] (fun v f i wr => ∃ (k fr : Nat) (acc : List ByteArray), i = .int .i64 k ∧ f = .int .i64 fr ∧ v = .slice (some ⟨w.heap.size, 0, none⟩) k (n + 1) ∧ k ≤ n ∧ fr ≤ s.size ∧ acc.length = k ∧ acc ++ pieces s fr (ps.drop k) = pieces s 0 ps ∧ Rise s.size fr (ps.drop k) ∧
      wr.ownsRow w.heap.size 24 5 (.slice (some ⟨w.heap.size, 0, none⟩) k (n + 1)) k (tCs (acc.map ofT)) ∧ Below w.heap.size w wr) (fun _ _ i _ => n - (intOf i).toNat)
  case atStart => exact ⟨0, 0, [], rfl, rfl, rfl, by omega, by omega, rfl, rfl, HR.out, HO0.out, HB0.out⟩
  case round =>
    clear HO0 HB0
    obtain ⟨k, fr, acc, rfl, rfl, rfl, hk, hfr, hal, hacc, hrise, hown, hB⟩ := hrel
    by_cases hlt : k < n
    · have hltp : k < ps.length := by rw [← HN.out]; exact hlt
      obtain ⟨p, hp⟩ : ∃ p, ps[k]? = some p := ⟨_, List.getElem?_eq_getElem hltp⟩
      have hdr : ps.drop k = p :: ps.drop (k + 1) := by
        rw [List.drop_eq_getElem_cons hltp]
        congr 1
        exact Option.some.inj ((List.getElem?_eq_getElem hltp).symm.trans hp)
      rw [hdr] at hacc hrise
      obtain ⟨r1, r2, r3⟩ := hrise
      obtain ⟨b0, off, rfl, hb0, hcl⟩ : ∃ b off, a = some ⟨b, off, none⟩ ∧ b < wr.heap.size ∧ ∀ (i : Nat) (z : Int), (ps.map (fun (p : Nat) => (p : Int)))[i]? = some z → wr.cell? ⟨b, off + i, none⟩ = some (.int .i64 z) := by
        rcases HZ.out.below hB with h | h
        · have := congrArg List.length h; rw [List.length_map, List.length_nil] at this; omega
        · exact h
      have c0 := hcl k (p : Int) (by rw [List.getElem?_map, hp]; rfl)
      have hlt' : (k : Int) < (n : Int) := by omega
      have i1 : (fr : Int) ≤ (p : Int) := by omega
      have i2 : (p : Int) ≤ (s.size : Int) := by omega
      have d1 : decide ((p : Int) < (fr : Int)) = false := decide_eq_false (by omega)
      have d2 : decide ((s.size : Int) < (p : Int)) = false := decide_eq_false (by omega)
      have ko := fun w => tof_any (s.extract fr p) w (by rw [ByteArray.size_extract]; omega)
      have hxx : ofT (s.extract fr p) = ((((s.extract fr p).size : Nat) : Int), ((chn (bl (s.extract fr p)) : Nat) : Int), ((lin (bl (s.extract fr p)) : Nat) : Int), hd (s.extract fr p), tl (s.extract fr p)) := rfl
      unfold tyC at ko
      obtain ⟨S, hS⟩ : ∃ z : Int, z = (((s.extract fr p).size : Nat) : Int) := ⟨_, rfl⟩
      rw [← hS] at ko hxx
      generalize ((chn (bl (s.extract fr p)) : Nat) : Int) = C at *
      generalize ((lin (bl (s.extract fr p)) : Nat) : Int) = L at *
      generalize hd (s.extract fr p) = H at *
      generalize tl (s.extract fr p) = T at *
      have KO := hide ko
      have HXX := hide hxx
      have HACC := hide hacc
      have HR3 := hide r3
      have HB := hide hB
      have HO := hide hown
      have HAL := hide hal
      have hsw := hB.size
      clear ko hxx hacc r3 hB hown hcl hdr hp hS hal
      go_wp2_with (first | (go_at_call 6; refine (KO.out _).mono ?_; rintro e w1 ⟨rfl, hB1⟩; have hO1 := (ownsRow_bel HO.out hB1).alloc (.cells #[.int .i64 S, .int .i64 C, .int .i64 L, .string H, .string T] 24); have hsw1 := hB1.size) | (at_builtin; refine wpList_append_fits _ rfl _ _ 31 rfl w.heap.size 24 i0 5 Try.underlying31 hi hz1 w.heap.size k (n + 1) _ rfl hO1 ⟨w1.heap.size, 0, none⟩ 1 1 (tC (S, C, L, H, T)) rfl rfl (row_cells w1 (S, C, L, H, T)) (tC_one _) (by omega) ?_; intro w3 hown3 hgrow3))
      have hBa := (bseq HB.out hB1).alloc (bseq HB.out hB1).size (.cells #[.int .i64 S, .int .i64 C, .int .i64 L, .string H, .string T] 24)
      go_roundw
      case rel =>
        refine ⟨k + 1, p, acc ++ [s.extract fr p], by go_num, rfl, rfl, by omega, by omega, by rw [List.length_append, HAL.out]; rfl, ?_, HR3.out, ?_, hBa.grown hgrow3 hBa.size (fun j e => by cases e; exact Nat.le_refl _)⟩
        · rw [List.append_assoc]
          exact HACC.out
        · rw [List.map_append, List.map_cons, List.map_nil, HXX.out, tCs_snoc]
          exact hown3
      case measure => simp [intOf]; omega
    · have hkn : k = n := by omega
      subst hkn
      have hdr : ps.drop k = [] := List.drop_eq_nil_of_le (by rw [← HN.out]; exact Nat.le_refl _)
      rw [hdr] at hacc
      have i1 : (fr : Int) ≤ (s.size : Int) := by omega
      have ko := fun w => tof_any (s.extract fr s.size) w (by rw [ByteArray.size_extract]; omega)
      have hxx : ofT (s.extract fr s.size) = ((((s.extract fr s.size).size : Nat) : Int), ((chn (bl (s.extract fr s.size)) : Nat) : Int), ((lin (bl (s.extract fr s.size)) : Nat) : Int), hd (s.extract fr s.size), tl (s.extract fr s.size)) := rfl
      unfold tyC at ko
      obtain ⟨S, hS⟩ : ∃ z : Int, z = (((s.extract fr s.size).size : Nat) : Int) := ⟨_, rfl⟩
      rw [← hS] at ko hxx
      generalize ((chn (bl (s.extract fr s.size)) : Nat) : Int) = C at *
      generalize ((lin (bl (s.extract fr s.size)) : Nat) : Int) = L at *
      generalize hd (s.extract fr s.size) = H at *
      generalize tl (s.extract fr s.size) = T at *
      have KO := hide ko
      have HXX := hide hxx
      have HACC := hide hacc
      have HB := hide hB
      have HO := hide hown
      have HAL := hide hal
      have hsw := hB.size
      clear ko hxx hacc hrise hB hown hdr hS hal
      go_wp2_with (first | (go_at_call 6; refine (KO.out _).mono ?_; rintro e w1 ⟨rfl, hB1⟩; have hO1 := (ownsRow_bel HO.out hB1).alloc (.cells #[.int .i64 S, .int .i64 C, .int .i64 L, .string H, .string T] 24); have hsw1 := hB1.size) | (at_builtin; refine wpList_append_fits _ rfl _ _ 31 rfl w.heap.size 24 i0 5 Try.underlying31 hi hz1 w.heap.size k (k + 1) _ rfl hO1 ⟨w1.heap.size, 0, none⟩ 1 1 (tC (S, C, L, H, T)) rfl rfl (row_cells w1 (S, C, L, H, T)) (tC_one _) (by omega) ?_; intro w3 hown3 hgrow3))
      have hBa := (bseq HB.out hB1).alloc (bseq HB.out hB1).size (.cells #[.int .i64 S, .int .i64 C, .int .i64 L, .string H, .string T] 24)
      go_ret2
      refine ⟨w.heap.size, rfl, ?_, hBa.grown hgrow3 hBa.size (fun j e => by cases e; exact Nat.le_refl _)⟩
      have hfin : acc ++ [s.extract fr s.size] = pieces s 0 ps := HACC.out
      rw [← hfin, List.map_append, List.map_cons, List.map_nil, HXX.out, tCs_snoc]
      exact hown3
end Go.Proofs.Ytojbclifafmllaa
