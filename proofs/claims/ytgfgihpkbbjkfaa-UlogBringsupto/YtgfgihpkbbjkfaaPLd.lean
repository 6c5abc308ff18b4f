/- Package pmem: bytes are read. -/
import Derived.Test.YtgfgihpkbbjkfaaPNew
namespace Go.Proofs.Ytgfgihpkbbjkfaa
open Go.RowKit Go.Shelf
set_option linter.unusedVariables false
attribute [local go_sem] Oper.semAt_some

theorem madeB (n : Nat) : madeCells #[Value.int .u8 0] n = ((List.replicate n 0).map B8).toArray := by
  apply Array.ext
  · simp [size_madeCells]
  · intro i h1 h2
    simp [madeCells, Nat.mod_one, B8]
theorem makeB_run (n : Nat) (hn : n ≤ 4194304) (w : World) : (Instr.makeSlice 33 (.int .i64 (n : Int)) (.int .i64 (n : Int))).run Try.prog w = .ok (.slice (some ⟨w.heap.size, 0, none⟩) n n) (w.alloc (.cells ((List.replicate n 0).map B8).toArray 5)) := by
  have h := run_make_row' (P := Try.prog) 33 5 (.int .u8 0) 1 Try.underlying33 (by kernel_rfl) rfl .i64 .i64 n (by omega) (by omega) w
  rw [h, madeB]
/-- What of a row has been read. -/
def ReadTo (σ : St) (at_ n m : Nat) (row : List Nat) : Prop := row.length = n ∧ ∀ k, k < n → (at_ + k) / 8 < at_ / 8 + m → row[k]? = σ.bytes[at_ + k]?
theorem ReadTo.all {σ : St} {at_ n m : Nat} {row : List Nat} (h : ReadTo σ at_ n m row) (hlen : at_ + n ≤ σ.bytes.length) (hm : n = 0 ∨ (at_ + n - 1) / 8 < at_ / 8 + m) : row = (σ.bytes.drop at_).take n := by
  refine List.ext_getElem? fun k => ?_
  rw [List.getElem?_take, List.getElem?_drop]
  split
  · rename_i hk
    exact h.2 k hk (by omega)
  · rename_i hk
    rw [List.getElem?_eq_none (by rw [h.1]; omega)]
theorem ReadTo.step {σ : St} {at_ n m no fr : Nat} {row part : List Nat} (h : ReadTo σ at_ n m row) (hno : no = at_ / 8 + m) (hfr : fr = max at_ (no * 8)) (hf2 : fr < at_ + n) (hpart : part = (σ.bytes.drop fr).take (min (8 - fr % 8) (n - (fr - at_)))) (hpl : part.length = min (8 - fr % 8) (n - (fr - at_))) : ReadTo σ at_ n (m + 1) (splice row (fr - at_) part) := by
  have hfit : fr - at_ + part.length ≤ row.length := by rw [h.1]; omega
  refine ⟨by rw [splice_len _ _ _ hfit]; exact h.1, fun k hk hk2 => ?_⟩
  rw [splice_get _ _ _ _ hfit]
  by_cases h1 : k < fr - at_
  · rw [if_pos h1]
    exact h.2 k hk (by omega)
  · have h3 : k < fr - at_ + part.length := by omega
    rw [if_neg h1, if_pos h3, hpart, List.getElem?_take, if_pos (by omega), List.getElem?_drop]
    congr 1
    omega
section
variable {w : World} {b at_ n : Nat} {L : Lay} {σ : St}
set_option maxRecDepth 100000 in
set_option maxHeartbeats 2000000 in
theorem pload_in (h : DevL w b L σ) (hok : σ.Ok) (ho : σ.off = false) (hlen : at_ + n ≤ 64 * σ.n) :
    CallsIn Fence.wide 3 Try.prog 21 #[.pointer (some ⟨b, 0, none⟩), .int .i64 (at_ : Int), .int .i64 (n : Int)] w fun e w' => ∃ R, e = .returned (.tuple #[.slice (some ⟨R, 0, none⟩) n n, .int .i64 0]) ∧ w.heap.size ≤ R ∧ w'.heap[R]? = some (.cells (((σ.bytes.drop at_).take n).map B8).toArray 5 (0, 0)) ∧ Below w.heap.size w w' := by
  have hnm := hok.max
  have hlen2 : at_ + n ≤ 4194304 := by omega
  have hO := h.old_
  have hA2 : Below w.heap.size w ((w.alloc (.cells #[.pointer (some ⟨b, 0, none⟩)] 28)).alloc (.cells #[.int .i64 (at_ : Int)] 3)) := ((Below.refl _ w).alloc (Nat.le_refl _) _).alloc (by simp) _
  have hd2 := h.below hA2
  have ks := pstate_any hd2
  rw [ho] at ks
  simp only [Bool.false_eq_true, if_false] at ks
  have kh := pholds_any hd2 hok.max (at_ : Int) (n : Int) (by omega) (by omega)
  have hb : hasB σ (at_ : Int) (n : Int) = true := by unfold hasB; simp; omega
  rw [hb] at kh
  obtain ⟨RZ, hRZ⟩ : ∃ RZ, RZ = ((List.replicate n 0).map B8).toArray := ⟨_, rfl⟩
  have mk2 := makeB_run n (by omega) ((w.alloc (.cells #[.pointer (some ⟨b, 0, none⟩)] 28)).alloc (.cells #[.int .i64 (at_ : Int)] 3))
  rw [← hRZ] at mk2
  simp only [World.size_alloc] at mk2
  have KS := hide ks
  have KH := hide kh
  have HRZ := hide hRZ
  clear ks kh hRZ hA2 hd2 hb
  have nI : (n : Int) ≤ 4194304 := by omega
  refine callsIn_of_wp_marks Try.func21 rfl trivial ?_ rfl
  simp only [Try.ntmps21, List.size_toArray, List.length_cons, List.length_nil, Nat.reduceAdd, Nat.reduceSub, Array.replicate_succ, Array.replicate_zero, List.push_toArray, List.append_toArray, List.nil_append, List.cons_append]
  gi_wp2_with (first | (refine ⟨trivial, ?_⟩; gi_at_call 37; refine (inW KS.out).mono ?_; rintro e w' ⟨rfl, hw⟩; obtain rfl := hw) | (refine ⟨trivial, ?_⟩; gi_at_call 45; refine (inW KH.out).mono ?_; rintro e w' ⟨rfl, hw⟩; obtain rfl := hw) | (refine ⟨trivial, ?_⟩; gi_at_call 47; refine (inW (words_in (at_ : Int) (n : Int) _)).mono ?_; rintro e w' ⟨rfl, rfl⟩))
  have hB0 : Below w.heap.size w ((((((w.alloc (.cells #[.pointer (some ⟨b, 0, none⟩)] 28)).alloc (.cells #[.int .i64 (at_ : Int)] 3)).alloc (.cells RZ 5)).alloc (.cells #[(.slice (some ⟨w.heap.size + 1 + 1, 0, none⟩) n n)] 33)).alloc (.cells #[.int .i64 (at_ : Int)] 3)).alloc (.cells #[.int .i64 (n : Int)] 3)) := ((((((Below.refl _ w).alloc (Nat.le_refl _) _).alloc (by simp) _).alloc (by simp; omega) _).alloc (by simp; omega) _).alloc (by simp; omega) _).alloc (by simp; omega) _
  have hsz : ((((((w.alloc (.cells #[.pointer (some ⟨b, 0, none⟩)] 28)).alloc (.cells #[.int .i64 (at_ : Int)] 3)).alloc (.cells RZ 5)).alloc (.cells #[(.slice (some ⟨w.heap.size + 1 + 1, 0, none⟩) n n)] 33)).alloc (.cells #[.int .i64 (at_ : Int)] 3)).alloc (.cells #[.int .i64 (n : Int)] 3)).heap.size = w.heap.size + 6 := by simp
  have b3 : Boxed ((((((w.alloc (.cells #[.pointer (some ⟨b, 0, none⟩)] 28)).alloc (.cells #[.int .i64 (at_ : Int)] 3)).alloc (.cells RZ 5)).alloc (.cells #[(.slice (some ⟨w.heap.size + 1 + 1, 0, none⟩) n n)] 33)).alloc (.cells #[.int .i64 (at_ : Int)] 3)).alloc (.cells #[.int .i64 (n : Int)] 3)) w.heap.size 28 (.pointer (some ⟨b, 0, none⟩)) := (((((Boxed.new w 28 (.pointer (some ⟨b, 0, none⟩))).alloc _).alloc _).alloc _).alloc _).alloc _
  have b4 := ((((Boxed.new (w.alloc (.cells #[.pointer (some ⟨b, 0, none⟩)] 28)) 3 (.int .i64 (at_ : Int))).alloc (.cells RZ 5)).alloc (.cells #[(.slice (some ⟨w.heap.size + 1 + 1, 0, none⟩) n n)] 33)).alloc (.cells #[.int .i64 (at_ : Int)] 3)).alloc (.cells #[.int .i64 (n : Int)] 3)
  have b9 := ((Boxed.new (((w.alloc (.cells #[.pointer (some ⟨b, 0, none⟩)] 28)).alloc (.cells #[.int .i64 (at_ : Int)] 3)).alloc (.cells RZ 5)) 33 (.slice (some ⟨w.heap.size + 1 + 1, 0, none⟩) n n)).alloc (.cells #[.int .i64 (at_ : Int)] 3)).alloc (.cells #[.int .i64 (n : Int)] 3)
  have b7 := (Boxed.new ((((w.alloc (.cells #[.pointer (some ⟨b, 0, none⟩)] 28)).alloc (.cells #[.int .i64 (at_ : Int)] 3)).alloc (.cells RZ 5)).alloc (.cells #[(.slice (some ⟨w.heap.size + 1 + 1, 0, none⟩) n n)] 33)) 3 (.int .i64 (at_ : Int))).alloc (.cells #[.int .i64 (n : Int)] 3)
  have b8 := Boxed.new (((((w.alloc (.cells #[.pointer (some ⟨b, 0, none⟩)] 28)).alloc (.cells #[.int .i64 (at_ : Int)] 3)).alloc (.cells RZ 5)).alloc (.cells #[(.slice (some ⟨w.heap.size + 1 + 1, 0, none⟩) n n)] 33)).alloc (.cells #[.int .i64 (at_ : Int)] 3)) 3 (.int .i64 (n : Int))
  have bR : ((((((w.alloc (.cells #[.pointer (some ⟨b, 0, none⟩)] 28)).alloc (.cells #[.int .i64 (at_ : Int)] 3)).alloc (.cells RZ 5)).alloc (.cells #[(.slice (some ⟨w.heap.size + 1 + 1, 0, none⟩) n n)] 33)).alloc (.cells #[.int .i64 (at_ : Int)] 3)).alloc (.cells #[.int .i64 (n : Int)] 3)).heap[((w.alloc (.cells #[.pointer (some ⟨b, 0, none⟩)] 28)).alloc (.cells #[.int .i64 (at_ : Int)] 3)).heap.size]? = some (.cells RZ 5 (0, 0)) := ((((Below.refl (((w.alloc (.cells #[.pointer (some ⟨b, 0, none⟩)] 28)).alloc (.cells #[.int .i64 (at_ : Int)] 3)).alloc (.cells RZ 5)).heap.size (((w.alloc (.cells #[.pointer (some ⟨b, 0, none⟩)] 28)).alloc (.cells #[.int .i64 (at_ : Int)] 3)).alloc (.cells RZ 5))).alloc (Nat.le_refl _) _).alloc (by simp) _).alloc (by simp) _ |>.block _ (by simp)).trans (heapNew ((w.alloc (.cells #[.pointer (some ⟨b, 0, none⟩)] 28)).alloc (.cells #[.int .i64 (at_ : Int)] 3)) (.cells RZ 5))
  simp only [World.size_alloc] at b4 b9 b7 b8 bR
  obtain ⟨W0, hW0⟩ : ∃ W0, ((((((w.alloc (.cells #[.pointer (some ⟨b, 0, none⟩)] 28)).alloc (.cells #[.int .i64 (at_ : Int)] 3)).alloc (.cells RZ 5)).alloc (.cells #[(.slice (some ⟨w.heap.size + 1 + 1, 0, none⟩) n n)] 33)).alloc (.cells #[.int .i64 (at_ : Int)] 3)).alloc (.cells #[.int .i64 (n : Int)] 3)) = W0 := ⟨_, rfl⟩
  rw [hW0] at b3 b4 b9 b7 b8 bR hB0 hsz ⊢
  clear hW0 mk2
  rw [HRZ.out] at bR
  have hd0 := h.below hB0
  apply rangeX (gf := 68) (lb := #[.pointer (some ⟨w.heap.size + 1 + 1 + 1 + 1, 0, none⟩), .pointer (some ⟨w.heap.size + 1 + 1 + 1 + 1 + 1, 0, none⟩)]) (encs := encI) rfl (enters_of Try.func68 (by kernel_rfl) rfl)
    (words_x HP (fun k => k = w.heap.size + 1 + 1 + 1 + 1 ∨ k = w.heap.size + 1 + 1 + 1 + 1 + 1) (w.heap.size + 1 + 1 + 1 + 1) (w.heap.size + 1 + 1 + 1 + 1 + 1) (at_ : Int) (n : Int) W0 (fun k hk => by omega) (.inl rfl) (.inr rfl) (by unfold HP; decide) b7.cell b8.cell (by omega) (by omega)) (Below.refl _ _) (fun k hk => by omega) (fun _ => rfl)
    (fun pre W' => ((Boxed W' w.heap.size 28 (.pointer (some ⟨b, 0, none⟩)) ∧ Boxed W' (w.heap.size + 1) 3 (.int .i64 (at_ : Int))) ∧ (Boxed W' (w.heap.size + 1 + 1 + 1) 33 (.slice (some ⟨w.heap.size + 1 + 1, 0, none⟩) n n) ∧ (Boxed W' (w.heap.size + 1 + 1 + 1 + 1) 3 (.int .i64 (at_ : Int)) ∧ Boxed W' (w.heap.size + 1 + 1 + 1 + 1 + 1) 3 (.int .i64 (n : Int))))) ∧ ((DevL W' b L σ ∧ Gr (fun k => k = w.heap.size + 1 + 1) W0 W') ∧ ∃ row, W'.heap[w.heap.size + 1 + 1]? = some (.cells (row.map B8).toArray 5 (0, 0)) ∧ ReadTo σ at_ n pre.length row))
    (fun c pre W' => False)
    (Stab.and (Stab.and (Stab.and (Stab.box _ _ (by omega)) (Stab.box _ _ (by omega))) (Stab.and (Stab.box _ _ (by omega)) (Stab.and (Stab.box _ _ (by omega)) (Stab.box _ _ (by omega))))) (Stab.and (Stab.and (stab_dev (σ := fun _ => σ) hO (by omega)) (stab_gr (Nat.le_refl _))) (fun s W W' hJ hs => by obtain ⟨row, h1, h2⟩ := hJ; exact ⟨row, hs.2 _ _ h1 (.inl (by omega)), h2⟩)))
    (fun c => Stab.pure _)
    ⟨⟨⟨b3, b4⟩, b9, b7, b8⟩, ⟨hd0, Gr.refl _ _⟩, List.replicate n 0, bR, by simp, fun k hk hk2 => absurd hk2 (by simp; omega)⟩
  case hassign =>
    intro l' x W' K hK
    simp only [encI]
    gi_wp2
    exact hK
  case hbody =>
    rintro l' pre x W ⟨⟨⟨h3, h4⟩, h9, h7, h8⟩, ⟨hdW, hgW⟩, row, hrow, hread⟩ hpx
    obtain ⟨no, rfl, hno, hno2, hn1, hmem, hpl⟩ := word_told hlen2 hpx
    obtain ⟨fr, hfr⟩ : ∃ fr, fr = max at_ (no * 8) := ⟨_, rfl⟩
    have f1 : at_ ≤ fr := by omega
    have f2 : fr < at_ + n := by omega
    have f3 : no * 8 ≤ fr ∧ fr < no * 8 + 8 := by omega
    have hi : no / 8 < σ.n := by omega
    obtain ⟨part, hpart⟩ : ∃ part, part = (σ.bytes.drop fr).take (min (8 - fr % 8) (n - (fr - at_))) := ⟨_, rfl⟩
    have hbl := hok.len
    have hpl2 : part.length = min (8 - fr % 8) (n - (fr - at_)) := by rw [hpart, List.length_take, List.length_drop]; omega
    have hnext : ReadTo σ at_ n (pre ++ [(no : Int)]).length (splice row (fr - at_) part) := by rw [List.length_append, List.length_singleton]; exact hread.step hno hfr f2 hpart hpl2
    have off64 : no / 8 * 64 + no % 8 * 8 + fr % 8 = fr := by omega
    have hsrc : ∀ j v, (part.map B8)[j]? = some v → W.drew.cell? ((⟨L.sb, no / 8 * 64 + no % 8 * 8 + fr % 8, none⟩ : Addr).add j) = some v := fun j v hv => by
      rw [List.getElem?_map] at hv
      obtain ⟨x, hx, rfl⟩ := Option.map_eq_some_iff.1 hv
      have hj : j < part.length := (List.getElem?_eq_some_iff.1 hx).1
      rw [hpart, List.getElem?_take, if_pos (by omega), List.getElem?_drop] at hx
      rw [Addr.add_mid, off64]
      refine (cell8 (w := W.drew) hdW.seen (fr + j)).trans ?_
      rw [List.getElem?_toArray, List.getElem?_append_left (by rw [List.length_map]; exact (List.getElem?_eq_some_iff.1 hx).1)]
      simp [hx]
    have e0 : ((no % 8 : Nat) : Int) = (no : Int) % 8 := by omega
    have e1 : ((fr % 8 : Nat) : Int) = (fr : Int) % 8 := by omega
    have e2 : ((fr - at_ : Nat) : Int) = (fr : Int) - (at_ : Int) := by omega
    have e3 : ((no / 8 : Nat) : Int) = (no : Int) / 8 := by omega
    have yg : Gr (fun k => k = w.heap.size + 1 + 1) W (W.drew.setRow (w.heap.size + 1 + 1) (splice (row.map B8) (fr - at_) (part.map B8)).toArray) := Gr.setRow W.drew (w.heap.size + 1 + 1) _ rfl
    have hdY : DevL (W.drew.setRow (w.heap.size + 1 + 1) (splice (row.map B8) (fr - at_) (part.map B8)).toArray) b L σ := hdW.keep (fun k hk => yg.block (hdW.foot_is hk) (fun e => by have := h.foot_is hk; omega))
    have y3 := yg.box h3 (by omega)
    have y4 := yg.box h4 (by omega)
    have y9 := yg.box h9 (by omega)
    have y7 := yg.box h7 (by omega)
    have y8 := yg.box h8 (by omega)
    have yR : (W.drew.setRow (w.heap.size + 1 + 1) (splice (row.map B8) (fr - at_) (part.map B8)).toArray).heap[w.heap.size + 1 + 1]? = some (.cells ((splice row (fr - at_) part).map B8).toArray 5 (0, 0)) := by rw [heap_setRow W.drew _ _ _ _ _ hrow, splice_map]
    have s0 : (fun X : World => X.cell? ⟨w.heap.size + 1, 0, none⟩ = some (.int .i64 (at_ : Int)) ∧ X.cell? ⟨w.heap.size + 1 + 1 + 1, 0, none⟩ = some (.slice (some ⟨w.heap.size + 1 + 1, 0, none⟩) n n) ∧ X.cell? ⟨w.heap.size, 0, none⟩ = some (.pointer (some ⟨b, 0, none⟩)) ∧ X.cell? ⟨b, 1, none⟩ = some (.slice (some ⟨L.sb, 0, none⟩) σ.n L.cp)) W.drew := ⟨h4.cell, h9.cell, h3.cell, hdW.c1⟩
    have s9 : (fun X : World => X.cell? ⟨w.heap.size + 1, 0, none⟩ = some (.int .i64 (at_ : Int)) ∧ X.cell? ⟨w.heap.size + 1 + 1 + 1, 0, none⟩ = some (.slice (some ⟨w.heap.size + 1 + 1, 0, none⟩) n n) ∧ X.cell? ⟨w.heap.size, 0, none⟩ = some (.pointer (some ⟨b, 0, none⟩)) ∧ X.cell? ⟨b, 1, none⟩ = some (.slice (some ⟨L.sb, 0, none⟩) σ.n L.cp)) (W.drew.setRow (w.heap.size + 1 + 1) (splice (row.map B8) (fr - at_) (part.map B8)).toArray) := ⟨y4.cell, y9.cell, y3.cell, hdY.c1⟩
    have hfin : Kp HP (fun k => k = w.heap.size + 1 + 1 + 1 + 1 ∨ k = w.heap.size + 1 + 1 + 1 + 1 + 1) W0.heap.size W (W.drew.setRow (w.heap.size + 1 + 1) (splice (row.map B8) (fr - at_) (part.map B8)).toArray) := yg.kp (fun k o hk hf => ⟨fun hn => by rcases hn with e | e <;> omega, .inl (by omega)⟩)
    have hJ1 := And.intro (And.intro y3 y4) (And.intro y9 (And.intro y7 y8))
    have hJ2 := And.intro hdY (hgW.trans yg (fun i h => .inl h))
    have hcl : (part.map B8).length = Nat.min (8 - fr % 8) (n - (fr - at_)) := by rw [List.length_map, hpl2]
    have hfit : fr - at_ + (part.map B8).length ≤ (row.map B8).length := by rw [List.length_map, List.length_map, hread.1]; omega
    have kp := fun X => part_any no at_ X (by omega) (by omega)
    rw [← hfr] at kp
    have c3 := h3.cell
    have c4 := h4.cell
    have KP := hide kp
    have HFIN := hide hfin
    have HJ1 := hide hJ1
    have HJ2 := hide hJ2
    have HYR := hide yR
    have HNX := hide hnext
    have HROW := hide hrow
    have HCL := hide hcl
    have HFIT := hide hfit
    have HSRC := hide hsrc
    have S9 := hide s9
    have S0 := hide s0
    have E0 := hide e0
    have E1 := hide e1
    have E2 := hide e2
    have E3 := hide e3
    have HHI := hide hi
    have TM : Hid ((fr : Int).tmod 8 = (fr : Int) % 8) := Int.tmod_eq_emod_of_nonneg (by omega)
    have WR : Hid (IntKind.i64.wrap ((fr : Int) - (at_ : Int)) = (fr : Int) - (at_ : Int)) := by show IntKind.i64.wrap _ = _; rw [IntKind.wrap_i64]; omega
    have SB1 : Hid (fr - at_ < n) := by show _ < _; omega
    have frI : (fr : Int) ≤ 4194304 := by omega
    have atI : (at_ : Int) ≤ (fr : Int) := by omega
    clear kp hfin hJ1 hJ2 hrow hcl hfit hsrc s9 s0 e0 e1 e2 e3 hi yg hdY y3 y4 y9 y7 y8 yR h3 h4 h9 h7 h8 hdW hgW hread hnext hpl2 hpart off64 hbl f1 f2 f3 hfr hno hno2 hmem hpl hpx hd0 b3 b4 b9 b7 b8 bR
    gi_wp2_with (refine ⟨trivial, ?_⟩; gi_at_call 48; refine (inR (KP.out _)).mono ?_; rintro e W1 ⟨rfl, hw⟩; obtain rfl := hw.symm)
    try go_frame
    refine region_heldR (fun X => X.cell? ⟨w.heap.size + 1, 0, none⟩ = some (.int .i64 (at_ : Int)) ∧ X.cell? ⟨w.heap.size + 1 + 1 + 1, 0, none⟩ = some (.slice (some ⟨w.heap.size + 1 + 1, 0, none⟩) n n) ∧ X.cell? ⟨w.heap.size, 0, none⟩ = some (.pointer (some ⟨b, 0, none⟩)) ∧ X.cell? ⟨b, 1, none⟩ = some (.slice (some ⟨L.sb, 0, none⟩) σ.n L.cp)) (by kernel_rfl) (by kernel_rfl) (fun _ _ h => h) S0.out (fun hS => ?_)
    refine wpAnyH_take (i := 0) (v := (.slice (some ⟨w.heap.size + 1 + 1, 0, none⟩) n n)) rfl (by kernel_rfl) (by kernel_rfl) (by kernel_rfl) (fun _ _ _ h => h) (Or.inl ⟨by kernel_rfl, fun w' hw => by (obtain ⟨z0, z1, z2, z3⟩ := hw; go_simp)⟩) hS ?_
    refine wpAnyH_take (i := 1) (v := (.int .i64 (fr : Int))) rfl (by kernel_rfl) (by kernel_rfl) (by kernel_rfl) (fun _ _ _ h => h) (Or.inl ⟨by kernel_rfl, fun w' hw => by (go_simp)⟩) hS ?_
    refine wpAnyH_take (i := 2) (v := (.int .i64 (at_ : Int))) rfl (by kernel_rfl) (by kernel_rfl) (by kernel_rfl) (fun _ _ _ h => h) (Or.inl ⟨by kernel_rfl, fun w' hw => by (obtain ⟨z0, z1, z2, z3⟩ := hw; go_simp)⟩) hS ?_
    refine wpAnyH_take (i := 3) (v := (.int .i64 ((fr : Int) - (at_ : Int)))) rfl (by kernel_rfl) (by kernel_rfl) (by kernel_rfl) (fun _ _ _ h => h) (Or.inl ⟨by kernel_rfl, fun w' hw => by (have wr := WR.out; go_simp)⟩) hS ?_
    refine wpAnyH_take (i := 4) (v := (.slice (some ⟨w.heap.size + 1 + 1, fr - at_, none⟩) (n - (fr - at_)) (n - (fr - at_)))) rfl (by kernel_rfl) (by kernel_rfl) (by kernel_rfl) (fun _ _ _ h => h) (Or.inl ⟨by kernel_rfl, fun w' hw => by (have e := slice_bytes (w.heap.size + 1 + 1) 0 (fr - at_) n n SB1.out (Nat.le_refl _) w'; rw [E2.out, Nat.zero_add] at e; go_simp)⟩) hS ?_
    refine wpAnyH_take (i := 5) (v := (.pointer (some ⟨b, 0, none⟩))) rfl (by kernel_rfl) (by kernel_rfl) (by kernel_rfl) (fun _ _ _ h => h) (Or.inl ⟨by kernel_rfl, fun w' hw => by (obtain ⟨z0, z1, z2, z3⟩ := hw; go_simp)⟩) hS ?_
    refine wpAnyH_take (i := 6) (v := (.pointer (some ⟨b, 0, none⟩))) rfl (by kernel_rfl) (by kernel_rfl) (by kernel_rfl) (fun _ _ _ h => h) (Or.inl ⟨by kernel_rfl, fun w' hw => by (go_simp)⟩) hS ?_
    refine wpAnyH_take (i := 7) (v := (.pointer (some ⟨b, 1, none⟩))) rfl (by kernel_rfl) (by kernel_rfl) (by kernel_rfl) (fun _ _ _ h => h) (Or.inl ⟨by kernel_rfl, fun w' hw => by (go_simp)⟩) hS ?_
    refine wpAnyH_take (i := 8) (v := (.slice (some ⟨L.sb, 0, none⟩) σ.n L.cp)) rfl (by kernel_rfl) (by kernel_rfl) (by kernel_rfl) (fun _ _ _ h => h) (Or.inl ⟨by kernel_rfl, fun w' hw => by (obtain ⟨z0, z1, z2, z3⟩ := hw; go_simp)⟩) hS ?_
    refine wpAnyH_take (i := 9) (v := (.int .i64 ((no : Int) / 8))) rfl (by kernel_rfl) (by kernel_rfl) (by kernel_rfl) (fun _ _ _ h => h) (Or.inl ⟨by kernel_rfl, fun w' hw => by (go_simp)⟩) hS ?_
    refine wpAnyH_take (i := 10) (v := (.int .i64 ((no : Int) % 8))) rfl (by kernel_rfl) (by kernel_rfl) (by kernel_rfl) (fun _ _ _ h => h) (Or.inl ⟨by kernel_rfl, fun w' hw => by (go_simp)⟩) hS ?_
    refine wpAnyH_take (i := 11) (v := (.pointer (some ⟨L.sb, no / 8 * 64, none⟩))) rfl (by kernel_rfl) (by kernel_rfl) (by kernel_rfl) (fun _ _ _ h => h) (Or.inl ⟨by kernel_rfl, fun w' hw => by (have e := index_line L.sb (no / 8) σ.n L.cp HHI.out w'; rw [E3.out] at e; go_simp)⟩) hS ?_
    refine wpAnyH_take (i := 12) (v := (.pointer (some ⟨L.sb, no / 8 * 64 + no % 8 * 8, none⟩))) rfl (by kernel_rfl) (by kernel_rfl) (by kernel_rfl) (fun _ _ _ h => h) (Or.inl ⟨by kernel_rfl, fun w' hw => by (have e := index_word L.sb (no / 8 * 64) (no % 8) (by omega) w'; rw [E0.out] at e; go_simp)⟩) hS ?_
    refine wpAnyH_take (i := 13) (v := (.int .i64 (fr : Int))) rfl (by kernel_rfl) (by kernel_rfl) (by kernel_rfl) (fun _ _ _ h => h) (Or.inl ⟨by kernel_rfl, fun w' hw => by (go_simp)⟩) hS ?_
    refine wpAnyH_take (i := 14) (v := (.int .i64 ((fr : Int) % 8))) rfl (by kernel_rfl) (by kernel_rfl) (by kernel_rfl) (fun _ _ _ h => h) (Or.inl ⟨by kernel_rfl, fun w' hw => by (have tm := TM.out; go_simp)⟩) hS ?_
    refine wpAnyH_take (i := 15) (v := (.slice (some ⟨L.sb, no / 8 * 64 + no % 8 * 8 + fr % 8, none⟩) (8 - fr % 8) (8 - fr % 8))) rfl (by kernel_rfl) (by kernel_rfl) (by kernel_rfl) (fun _ _ _ h => h) (Or.inl ⟨by kernel_rfl, fun w' hw => by (have e := slice_word L.sb (no / 8 * 64 + no % 8 * 8) (fr % 8) (by omega) w'; rw [E1.out] at e; go_simp)⟩) hS ?_
    refine wpAnyH_op (i := 16) (by kernel_rfl) rfl (by kernel_rfl) (by kernel_rfl) (wp_copy (.tmp 41) (.tmp 52) 33 33 (by kernel_rfl) 5 Try.underlying33 (by kernel_rfl) (w.heap.size + 1 + 1) (fr - at_) (n - (fr - at_)) (n - (fr - at_)) ⟨L.sb, no / 8 * 64 + no % 8 * 8 + fr % 8, none⟩ (8 - fr % 8) (8 - fr % 8) (by kernel_rfl) (by kernel_rfl) (row.map B8) 5 HROW.out (part.map B8) HCL.out HSRC.out HFIT.out (B8_cell part) ⟨S9.out, ?_⟩)
    exact ⟨HFIN.out, HJ1.out, HJ2.out, _, HYR.out, HNX.out⟩
  case hdone =>
    rintro D W hD ⟨⟨⟨h3, h4⟩, h9, h7, h8⟩, ⟨hdW, hgW⟩, row, hrow, hread⟩ hK
    have c9 := h9.cell
    have hul : (unitsV 8 (at_ : Int) (n : Int)).length = (wordsOf at_ n).length := by unfold wordsOf; rw [List.length_map]
    have hwl : n = 0 ∨ (at_ + n - 1) / 8 < at_ / 8 + (unitsV 8 (at_ : Int) (n : Int)).length := by
      rw [hul, wordsOf_eq at_ n hlen2]
      by_cases h0 : n = 0
      · exact .inl h0
      · rw [if_neg h0]; right; simp; omega
    have hall := hread.all (by rw [hok.len]; exact hlen) hwl
    have HROW := hide hrow
    have HALL := hide hall
    have HG := hide hgW
    have HK := hide hK
    clear h3 h4 h9 h7 h8 hdW hgW hrow hread hK hul hwl hall
    gi_wp2
    refine ⟨by simp, .inl ⟨_, _, rfl, run_takeDeferred HK.out, ?_⟩⟩
    have hDne : w.heap.size + 1 + 1 ≠ D := by omega
    have hgr : Gr (fun k => k = w.heap.size + 1 + 1) w (W.putObj D (.deferred none)) := by
      have g1 : Gr (fun k => k = w.heap.size + 1 + 1) w W := (Gr.of_below hB0).trans HG.out (fun i h => .inl h)
      have g3 : Gr (fun k => k = D) W (W.putObj D (.deferred none)) := Gr.of_grown (grownBy_putObj' _ D _) (fun k hk => .inl (by cases hk; rfl))
      exact g1.trans g3 (fun i h => .inr (by omega))
    refine ⟨_, results_tmp2 rfl _ _ _, w.heap.size + 1 + 1, rfl, by omega, ?_, hgr.1, hgr.2.1, hgr.2.2.1, hgr.size, fun k hk => hgr.block hk (by omega)⟩
    rw [World.putObj_heap_other hDne, HROW.out, HALL.out]
  case hstop =>
    rintro D c pre W2 hD _ hF hK
    exact hF.elim
end
end Go.Proofs.Ytgfgihpkbbjkfaa
