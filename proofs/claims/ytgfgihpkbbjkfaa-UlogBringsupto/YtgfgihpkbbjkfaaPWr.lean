/- Package pmem: bytes are written, word by word. -/
import Derived.Test.YtgfgihpkbbjkfaaPWrB
namespace Go.Proofs.Ytgfgihpkbbjkfaa
open Go.RowKit Go.Shelf
set_option linter.unusedVariables false
attribute [local go_sem] Oper.semAt_some

set_option maxRecDepth 100000 in
set_option maxHeartbeats 2000000 in
theorem pwrite_in {w : World} {b at_ cap : Nat} {L : Lay} {σ : St} {a : Option Addr} {bs : List Nat} (h : DevL w b L σ) (hok : σ.Ok) (hN : L.N ≤ σ.ops) (harm : σ.arms = []) (hsl : Sl w a bs) (hcap : bs.length ≤ cap) (hlen : at_ + bs.length ≤ 64 * σ.n) (hops : σ.ops + 600000 ≤ 1400000000000)
    (haf : ∀ ad, a = some ad → ad.block < w.heap.size ∧ ¬ Foot b L σ ad.block) :
    CallsIn Fence.wide 3 Try.prog 46 #[.pointer (some ⟨b, 0, none⟩), .int .i64 (at_ : Int), .slice a bs.length cap] w fun e w' => e = .returned (.int .i64 0) ∧ ∃ L', DevL w' b L' (writeDo bs at_ σ (wordsOf at_ bs.length)) ∧ (∀ k, Foot b L' (writeDo bs at_ σ (wordsOf at_ bs.length)) k → Foot b L σ k ∨ w.heap.size ≤ k) ∧ Gr (Foot b L σ) w w' ∧ L'.N ≤ L.N + (wordsOf at_ bs.length).length ∧ SameL L L' := by
  have hbs := hsl.lt
  have hnm := hok.max
  have hlen2 : at_ + bs.length ≤ 4194304 := by omega
  have hwl := wordsOf_len hlen2
  have hO := h.old_
  refine callsIn_of_wp_marks Try.func46 rfl trivial ?_ rfl
  simp only [Try.ntmps46, List.size_toArray, List.length_cons, List.length_nil, Nat.reduceAdd, Nat.reduceSub, Array.replicate_succ, Array.replicate_zero, List.push_toArray, List.append_toArray, List.nil_append, List.cons_append]
  gi_wp2_with (refine ⟨trivial, ?_⟩; gi_at_call 47; refine (inW (words_in (at_ : Int) (bs.length : Int) _)).mono ?_; rintro e w' ⟨rfl, rfl⟩)
  have hB0 : Below w.heap.size w ((((((w.alloc (.cells #[.pointer (some ⟨b, 0, none⟩)] 28)).alloc (.cells #[.int .i64 (at_ : Int)] 3)).alloc (.cells #[.slice a bs.length cap] 33)).alloc (.cells #[.int .i64 0] 35)).alloc (.cells #[.int .i64 (at_ : Int)] 3)).alloc (.cells #[.int .i64 (bs.length : Int)] 3)) := ((((((Below.refl _ w).alloc (Nat.le_refl _) _).alloc (by simp) _).alloc (by simp; omega) _).alloc (by simp; omega) _).alloc (by simp; omega) _).alloc (by simp; omega) _
  have hsz : ((((((w.alloc (.cells #[.pointer (some ⟨b, 0, none⟩)] 28)).alloc (.cells #[.int .i64 (at_ : Int)] 3)).alloc (.cells #[.slice a bs.length cap] 33)).alloc (.cells #[.int .i64 0] 35)).alloc (.cells #[.int .i64 (at_ : Int)] 3)).alloc (.cells #[.int .i64 (bs.length : Int)] 3)).heap.size = w.heap.size + 6 := by simp
  have b3 : Boxed ((((((w.alloc (.cells #[.pointer (some ⟨b, 0, none⟩)] 28)).alloc (.cells #[.int .i64 (at_ : Int)] 3)).alloc (.cells #[.slice a bs.length cap] 33)).alloc (.cells #[.int .i64 0] 35)).alloc (.cells #[.int .i64 (at_ : Int)] 3)).alloc (.cells #[.int .i64 (bs.length : Int)] 3)) w.heap.size 28 (.pointer (some ⟨b, 0, none⟩)) := (((((Boxed.new w 28 (.pointer (some ⟨b, 0, none⟩))).alloc _).alloc _).alloc _).alloc _).alloc _
  have b4 := ((((Boxed.new (w.alloc (.cells #[.pointer (some ⟨b, 0, none⟩)] 28)) 3 (.int .i64 (at_ : Int))).alloc (.cells #[.slice a bs.length cap] 33)).alloc (.cells #[.int .i64 0] 35)).alloc (.cells #[.int .i64 (at_ : Int)] 3)).alloc (.cells #[.int .i64 (bs.length : Int)] 3)
  have b5 := (((Boxed.new ((w.alloc (.cells #[.pointer (some ⟨b, 0, none⟩)] 28)).alloc (.cells #[.int .i64 (at_ : Int)] 3)) 33 (.slice a bs.length cap)).alloc (.cells #[.int .i64 0] 35)).alloc (.cells #[.int .i64 (at_ : Int)] 3)).alloc (.cells #[.int .i64 (bs.length : Int)] 3)
  have b6 := ((Boxed.new (((w.alloc (.cells #[.pointer (some ⟨b, 0, none⟩)] 28)).alloc (.cells #[.int .i64 (at_ : Int)] 3)).alloc (.cells #[.slice a bs.length cap] 33)) 35 (.int .i64 0)).alloc (.cells #[.int .i64 (at_ : Int)] 3)).alloc (.cells #[.int .i64 (bs.length : Int)] 3)
  have b7 := (Boxed.new ((((w.alloc (.cells #[.pointer (some ⟨b, 0, none⟩)] 28)).alloc (.cells #[.int .i64 (at_ : Int)] 3)).alloc (.cells #[.slice a bs.length cap] 33)).alloc (.cells #[.int .i64 0] 35)) 3 (.int .i64 (at_ : Int))).alloc (.cells #[.int .i64 (bs.length : Int)] 3)
  have b8 := Boxed.new (((((w.alloc (.cells #[.pointer (some ⟨b, 0, none⟩)] 28)).alloc (.cells #[.int .i64 (at_ : Int)] 3)).alloc (.cells #[.slice a bs.length cap] 33)).alloc (.cells #[.int .i64 0] 35)).alloc (.cells #[.int .i64 (at_ : Int)] 3)) 3 (.int .i64 (bs.length : Int))
  simp only [World.size_alloc] at b4 b5 b6 b7 b8
  obtain ⟨W0, hW0⟩ : ∃ W0, ((((((w.alloc (.cells #[.pointer (some ⟨b, 0, none⟩)] 28)).alloc (.cells #[.int .i64 (at_ : Int)] 3)).alloc (.cells #[.slice a bs.length cap] 33)).alloc (.cells #[.int .i64 0] 35)).alloc (.cells #[.int .i64 (at_ : Int)] 3)).alloc (.cells #[.int .i64 (bs.length : Int)] 3)) = W0 := ⟨_, rfl⟩
  rw [hW0] at b3 b4 b5 b6 b7 b8 hB0 hsz ⊢
  clear hW0
  have hd0 := h.below hB0
  have hsl0 := hsl.below hB0
  apply rangeX (gf := 68) (lb := #[.pointer (some ⟨w.heap.size + 1 + 1 + 1 + 1, 0, none⟩), .pointer (some ⟨w.heap.size + 1 + 1 + 1 + 1 + 1, 0, none⟩)]) (encs := encI) rfl (enters_of Try.func68 (by kernel_rfl) rfl)
    (words_x HP (fun k => k = w.heap.size + 1 + 1 + 1 + 1 ∨ k = w.heap.size + 1 + 1 + 1 + 1 + 1) (w.heap.size + 1 + 1 + 1 + 1) (w.heap.size + 1 + 1 + 1 + 1 + 1) (at_ : Int) (bs.length : Int) W0 (fun k hk => by omega) (.inl rfl) (.inr rfl) (by unfold HP; decide) b7.cell b8.cell (by omega) (by omega)) (Below.refl _ _) (fun k hk => by omega) (fun _ => rfl)
    (fun pre W' => ((Boxed W' w.heap.size 28 (.pointer (some ⟨b, 0, none⟩)) ∧ Boxed W' (w.heap.size + 1) 3 (.int .i64 (at_ : Int))) ∧ (Boxed W' (w.heap.size + 1 + 1) 33 (.slice a bs.length cap) ∧ Boxed W' (w.heap.size + 1 + 1 + 1) 35 (.int .i64 0) ∧ (Boxed W' (w.heap.size + 1 + 1 + 1 + 1) 3 (.int .i64 (at_ : Int)) ∧ Boxed W' (w.heap.size + 1 + 1 + 1 + 1 + 1) 3 (.int .i64 (bs.length : Int))))) ∧ ((Sl W' a bs ∧ Gr (Foot b L σ) W0 W') ∧ ∃ L', DevL W' b L' (writeDo bs at_ σ (pre.map Int.toNat)) ∧ (SameL L L' ∧ L'.N ≤ L.N + pre.length ∧ ∀ k, Foot b L' (writeDo bs at_ σ (pre.map Int.toNat)) k → Foot b L σ k ∨ w.heap.size ≤ k)))
    (fun c pre W' => False)
    (Stab.and (Stab.and (Stab.and (Stab.box _ _ (by omega)) (Stab.box _ _ (by omega))) (Stab.and (Stab.box _ _ (by omega)) (Stab.and (Stab.box _ _ (by omega)) (Stab.and (Stab.box _ _ (by omega)) (Stab.box _ _ (by omega)))))) (Stab.and (Stab.and (stab_sl a bs (by omega) (fun ad he => (haf ad he).1)) (stab_gr (Nat.le_refl _))) (fun s W W' hJ hs => by obtain ⟨L', h1, h2, h3⟩ := hJ; exact ⟨L', stab_dev (σ := fun _ : Unit => writeDo bs at_ σ (s.map Int.toNat)) (hO.same h2) (by omega) () W W' h1 hs, h2, h3⟩)))
    (fun c => Stab.pure _)
    ⟨⟨⟨b3, b4⟩, b5, b6, b7, b8⟩, ⟨hsl0, Gr.refl _ _⟩, L, hd0, SameL.refl L, by simp, fun k hk => .inl hk⟩
  case hassign =>
    intro l' x W' K hK
    simp only [encI]
    gi_wp2
    exact hK
  case hbody =>
    rintro l' pre x W ⟨⟨⟨h3, h4⟩, h5, h6, h7, h8⟩, ⟨hslW, hgW⟩, L', hdW, hsame, hNL, hfoot⟩ hpx
    obtain ⟨no, rfl, hno, hno2, hn1, hmem, hpl⟩ := word_told hlen2 hpx
    have hsub : ∀ y ∈ pre.map Int.toNat, y / 8 < σ.n := fun y hy => wordsOf_lt hlen hnm y (by
      obtain ⟨z, hz, rfl⟩ := List.mem_map.1 hy
      exact List.mem_map.2 ⟨z, hpx.subset (List.mem_append_left _ hz), rfl⟩)
    have hlike := write_like (at_ := at_) hbs (pre.map Int.toNat) σ hok hsub (by rw [List.length_map]; omega)
    rw [List.length_map] at hlike
    have hsn : writeDo bs at_ σ ((pre ++ [(no : Int)]).map Int.toNat) = wordDo bs at_ (writeDo bs at_ σ (pre.map Int.toNat)) no := by rw [List.map_append, List.map_cons, List.map_nil, writeDo_snoc]; rfl
    generalize writeDo bs at_ σ (pre.map Int.toNat) = σk at *
    have hi : no / 8 < σk.n := by rw [hlike.n]; omega
    obtain ⟨ab, ao, ha, hab, hseg⟩ : ∃ ab ao, a = some ⟨ab, ao, none⟩ ∧ ab < w.heap.size ∧ Seg W ab ao bs := by
      rcases hslW with h1 | ⟨ab, ao, h1, h2, h3⟩
      · rw [h1] at hn1; simp at hn1
      · exact ⟨ab, ao, h1, (haf _ h1).1, h3⟩
    obtain ⟨fr, hfr⟩ : ∃ fr, fr = max at_ (no * 8) := ⟨_, rfl⟩
    have f1 : at_ ≤ fr := by omega
    have f2 : fr < at_ + bs.length := by omega
    have f3 : no * 8 ≤ fr ∧ fr < no * 8 + 8 := by omega
    obtain ⟨hpt1, hpt2⟩ := word_part (at_ := at_) (no := no) hbs hlike.ok hi
    rw [← hfr] at hpt1 hpt2
    obtain ⟨part, hpart⟩ : ∃ part, part = (bs.drop (fr - at_)).take (8 - fr % 8) := ⟨_, rfl⟩
    rw [← hpart] at hpt1 hpt2
    have hword : wordDo bs at_ σk no = { σk.put (no / 8) (splice (σk.line (no / 8)) (fr % 64) part) with ops := σk.ops + 1 } := by unfold wordDo; rw [hpart, hfr]
    have hpl2 : part.length = min (bs.length - (fr - at_)) (8 - fr % 8) := by rw [hpart, List.length_take, List.length_drop]; omega
    have hsrc : ∀ X : World, X.heap[ab]? = W.heap[ab]? → ∀ j v, (part.map B8)[j]? = some v → X.cell? ((⟨ab, ao + (fr - at_), none⟩ : Addr).add j) = some v := fun X hX j v hv => by
      rw [List.getElem?_map] at hv
      obtain ⟨x, hx, rfl⟩ := Option.map_eq_some_iff.1 hv
      have hj : j < part.length := (List.getElem?_eq_some_iff.1 hx).1
      rw [hpart, List.getElem?_take, if_pos (by omega), List.getElem?_drop] at hx
      rw [Addr.add_mid, Nat.add_assoc]
      exact (World.cell?_of_block (a := ⟨ab, ao + (fr - at_ + j), none⟩) hX).trans (hseg _ _ hx).1
    have off64 : no % 8 * 8 + fr % 8 = fr % 64 := by omega
    have e0 : ((no % 8 : Nat) : Int) = (no : Int) % 8 := by omega
    have e1 : ((fr % 8 : Nat) : Int) = (fr : Int) % 8 := by omega
    have e2 : ((fr - at_ : Nat) : Int) = (fr : Int) - (at_ : Int) := by omega
    have hll := line_len hlike.ok hi
    have hlr := line_range hdW hlike.ok hi
    have c3 := h3.cell
    have c4 := h4.cell
    have c5 := h5.cell
    have c1 := hdW.c1
    have l0 := fun X => index_line L'.sb (no / 8) σk.n L'.cp hi X
    have hl64 : ((σk.line (no / 8)).map B8).length = 64 := by rw [List.length_map, hll]
    have si : (Try.prog.info? 73).map (·.size) = some ((σk.line (no / 8)).map B8).toArray.size := by rw [List.size_toArray, hl64]; kernel_rfl
    have S1 := hide (all_oneCell_toArray (B8_cell (σk.line (no / 8))))
    have HL64 := hide hl64
    have SI := hide si
    clear hl64
    obtain ⟨Z, hzl, hz⟩ := zero_content
    have HZ := hide hz
    have HZL := hide hzl
    have TH : Hid (∀ X : World, (X.alloc (.cells Z.toArray 73)).there X.heap.size 0 ((σk.line (no / 8)).map B8).toArray.size) := fun X => there_row (heapNew X _) 0 _ (by rw [List.size_toArray, HL64.out, hzl]; omega)
    clear hz hzl
    have kp := fun X => part_any no at_ X (by omega) (by omega)
    rw [← hfr] at kp
    have KP := hide kp
    clear kp
    have HLR := hide hlr
    have HLL := hide hll
    have HD := hide hdW
    have HG := hide hgW
    have HSL := hide hslW
    have HF := hide hfoot
    have HS := hide hsame
    have HK := hide hlike
    have H3 := hide h3
    have H4 := hide h4
    have H5 := hide h5
    have H6 := hide h6
    have H7 := hide h7
    have H8 := hide h8
    have HSN := hide hsn
    have HSRC := hide hsrc
    have HPL2 := hide hpl2
    have HOFF := hide off64
    have HPT1 := hide hpt1
    have HPT2 := hide hpt2
    have HWORD := hide hword
    have HA := hide ha
    have HAB := hide hab
    have HHI := hide hi
    have F1 := hide f1
    have F2 := hide f2
    have F3 := hide f3
    have E0 := hide e0
    have E1 := hide e1
    have E2 := hide e2
    have HC1 := hide c1
    have frI : (fr : Int) ≤ 4194304 := by omega
    have atI : (at_ : Int) ≤ (fr : Int) := by omega
    clear hsrc hpl2 off64 hpt1 hpt2 hword hab hfr hpart f1 f2 f3 e0 e1 e2 hseg
    rw [ha] at c5
    clear ha
    have HNO := hide hno
    have HNO2 := hide hno2
    clear si hlr hll hdW hgW hslW hfoot hsame hlike hpx hsub h3 h4 h5 h6 h7 h8 hsn hmem hno hno2
    gi_wp2_with (first | (refine ⟨trivial, ?_⟩; gi_at_call 48; refine (inR (KP.out _)).mono ?_; rintro e W1 ⟨rfl, rfl⟩) | (refine wpListIn_load_mid rfl 73 (.tmp 30) rfl L'.sb (no / 8 * 64) (by kernel_rfl) ((σk.line (no / 8)).map B8) (.array 8 71) HLR.out (by kernel_rfl) rfl (by rw [List.length_map, HLL.out]; kernel_rfl) ?_) | (refine wpListIn_alloc_row rfl 73 rfl Z (HZ.out _) ?_) | (refine wpListIn_store_mid rfl 73 (.tmp 11) (.tmp 31) rfl W1.heap.size 0 ((σk.line (no / 8)).map B8).toArray (by kernel_rfl) (by kernel_rfl) (TH.out W1) SI.out S1.out ?_; have hnew := new_row (W := W1) (cur := Z) (vs := (σk.line (no / 8)).map B8) (t := 73) (HL64.out.trans HZL.out.symm); have HNEW := hide hnew; clear hnew))
    go_frame
    generalize hX : (W1.alloc (.cells Z.toArray 73)).setCells W1.heap.size 0 ((σk.line (no / 8)).map B8) = X at *
    obtain ⟨hx1, hx2, hx3⟩ := HNEW.out
    clear hX HNEW
    have TM : Hid ((fr : Int).tmod 8 = (fr : Int) % 8) := Int.tmod_eq_emod_of_nonneg (by omega)
    have WR : Hid (IntKind.i64.wrap ((fr : Int) - (at_ : Int)) = (fr : Int) - (at_ : Int)) := by show IntKind.i64.wrap _ = _; rw [IntKind.wrap_i64]; omega
    have SB1 : Hid (fr - at_ < bs.length) := by have := F1.out; have := F2.out; show _ < _; omega
    have x3 := below_boxedP hx2 H3.out
    have x4 := below_boxedP hx2 H4.out
    have x5 := below_boxedP hx2 H5.out
    rw [HA.out] at x5
    have hs1 : w.heap.size + 6 ≤ W1.heap.size := by have h2 := HG.out.size; omega
    have hxb : X.heap[ab]? = W1.heap[ab]? := hx2.block ab (by have := HAB.out; omega)
    have yg : Gr (fun k => k = W1.heap.size) X (X.drew.setRow W1.heap.size (splice ((σk.line (no / 8)).map B8) (no % 8 * 8 + fr % 8) (part.map B8)).toArray) := Gr.setRow X.drew W1.heap.size _ rfl
    have ne1 : w.heap.size + 1 ≠ W1.heap.size := by omega
    have ne2 : w.heap.size + 1 + 1 ≠ W1.heap.size := by omega
    have ne0 : w.heap.size ≠ W1.heap.size := by omega
    have y3 := yg.box x3 ne0
    have y4 := yg.box x4 ne1
    have y5 := yg.box x5 ne2
    have yn : (X.drew.setRow W1.heap.size (splice ((σk.line (no / 8)).map B8) (no % 8 * 8 + fr % 8) (part.map B8)).toArray).heap[W1.heap.size]? = some (.cells ((splice (σk.line (no / 8)) (fr % 64) part).map B8).toArray 73 (0, 0)) := by rw [heap_setRow X.drew W1.heap.size _ _ _ _ hx1, HOFF.out, splice_map]
    have s0 : X.drew.cell? ⟨w.heap.size + 1, 0, none⟩ = some (.int .i64 (at_ : Int)) ∧ X.drew.cell? ⟨w.heap.size + 1 + 1, 0, none⟩ = some (.slice (some ⟨ab, ao, none⟩) bs.length cap) := ⟨x4.cell, x5.cell⟩
    have s9 : (X.drew.setRow W1.heap.size (splice ((σk.line (no / 8)).map B8) (no % 8 * 8 + fr % 8) (part.map B8)).toArray).cell? ⟨w.heap.size + 1, 0, none⟩ = some (.int .i64 (at_ : Int)) ∧ (X.drew.setRow W1.heap.size (splice ((σk.line (no / 8)).map B8) (no % 8 * 8 + fr % 8) (part.map B8)).toArray).cell? ⟨w.heap.size + 1 + 1, 0, none⟩ = some (.slice (some ⟨ab, ao, none⟩) bs.length cap) := ⟨y4.cell, y5.cell⟩
    have hsr := HSRC.out X.drew hxb
    have hpl3 := HPL2.out
    have hfit : no % 8 * 8 + fr % 8 + (part.map B8).length ≤ ((σk.line (no / 8)).map B8).length := by rw [List.length_map, List.length_map, HLL.out]; omega
    have hcl : (part.map B8).length = Nat.min (bs.length - (fr - at_)) (8 - fr % 8) := by rw [List.length_map, hpl3]
    have HSR := hide hsr
    have HFIT := hide hfit
    have HCL := hide hcl
    have HX1 := hide hx1
    have S9 := hide s9
    have HYN := hide yn
    have HYG := hide yg
    have HX2 := hide hx2
    have Y3 := hide y3
    have HS1 := hide hs1
    clear hsr hfit hcl hx1 s9 yn yg hx2 x3 x4 x5 y3 y4 y5 hpl3 hxb hx3 ne0 ne1 ne2 hs1
    refine region_heldR (fun X => X.cell? ⟨w.heap.size + 1, 0, none⟩ = some (.int .i64 (at_ : Int)) ∧ X.cell? ⟨w.heap.size + 1 + 1, 0, none⟩ = some (.slice (some ⟨ab, ao, none⟩) bs.length cap)) (by kernel_rfl) (by kernel_rfl) (fun _ _ h => h) s0 (fun hS => ?_)
    refine wpAnyH_take (i := 0) (v := (.int .i64 ((no : Int) % 8))) rfl (by kernel_rfl) (by kernel_rfl) (by kernel_rfl) (fun _ _ _ h => h) (Or.inl ⟨by kernel_rfl, fun w' hw => by (go_simp)⟩) hS ?_
    refine wpAnyH_take (i := 1) (v := (.pointer (some ⟨W1.heap.size, no % 8 * 8, none⟩))) rfl (by kernel_rfl) (by kernel_rfl) (by kernel_rfl) (fun _ _ _ h => h) (Or.inl ⟨by kernel_rfl, fun w' hw => by (have e := index_word W1.heap.size 0 (no % 8) (by omega) w'; rw [E0.out, Nat.zero_add] at e; go_simp)⟩) hS ?_
    refine wpAnyH_take (i := 2) (v := (.int .i64 (fr : Int))) rfl (by kernel_rfl) (by kernel_rfl) (by kernel_rfl) (fun _ _ _ h => h) (Or.inl ⟨by kernel_rfl, fun w' hw => by (go_simp)⟩) hS ?_
    refine wpAnyH_take (i := 3) (v := (.int .i64 ((fr : Int) % 8))) rfl (by kernel_rfl) (by kernel_rfl) (by kernel_rfl) (fun _ _ _ h => h) (Or.inl ⟨by kernel_rfl, fun w' hw => by (have tm := TM.out; go_simp)⟩) hS ?_
    refine wpAnyH_take (i := 4) (v := (.slice (some ⟨W1.heap.size, no % 8 * 8 + fr % 8, none⟩) (8 - fr % 8) (8 - fr % 8))) rfl (by kernel_rfl) (by kernel_rfl) (by kernel_rfl) (fun _ _ _ h => h) (Or.inl ⟨by kernel_rfl, fun w' hw => by (have e := slice_word W1.heap.size (no % 8 * 8) (fr % 8) (by omega) w'; rw [E1.out] at e; go_simp)⟩) hS ?_
    refine wpAnyH_take (i := 5) (v := (.slice (some ⟨ab, ao, none⟩) bs.length cap)) rfl (by kernel_rfl) (by kernel_rfl) (by kernel_rfl) (fun _ _ _ h => h) (Or.inl ⟨by kernel_rfl, fun w' hw => by (obtain ⟨z0, z1⟩ := hw; go_simp)⟩) hS ?_
    refine wpAnyH_take (i := 6) (v := (.int .i64 (fr : Int))) rfl (by kernel_rfl) (by kernel_rfl) (by kernel_rfl) (fun _ _ _ h => h) (Or.inl ⟨by kernel_rfl, fun w' hw => by (go_simp)⟩) hS ?_
    refine wpAnyH_take (i := 7) (v := (.int .i64 (at_ : Int))) rfl (by kernel_rfl) (by kernel_rfl) (by kernel_rfl) (fun _ _ _ h => h) (Or.inl ⟨by kernel_rfl, fun w' hw => by (obtain ⟨z0, z1⟩ := hw; go_simp)⟩) hS ?_
    refine wpAnyH_take (i := 8) (v := (.int .i64 ((fr : Int) - (at_ : Int)))) rfl (by kernel_rfl) (by kernel_rfl) (by kernel_rfl) (fun _ _ _ h => h) (Or.inl ⟨by kernel_rfl, fun w' hw => by (have wr := WR.out; go_simp)⟩) hS ?_
    refine wpAnyH_take (i := 9) (v := (.slice (some ⟨ab, ao + (fr - at_), none⟩) (bs.length - (fr - at_)) (cap - (fr - at_)))) rfl (by kernel_rfl) (by kernel_rfl) (by kernel_rfl) (fun _ _ _ h => h) (Or.inl ⟨by kernel_rfl, fun w' hw => by (have e := slice_bytes ab ao (fr - at_) bs.length cap SB1.out hcap w'; rw [E2.out] at e; go_simp)⟩) hS ?_
    refine wpAnyH_op (i := 10) (by kernel_rfl) rfl (by kernel_rfl) (by kernel_rfl) (wp_copy (.tmp 36) (.tmp 41) 33 33 (by kernel_rfl) 5 Try.underlying33 (by kernel_rfl) W1.heap.size (no % 8 * 8 + fr % 8) (8 - fr % 8) (8 - fr % 8) ⟨ab, ao + (fr - at_), none⟩ (bs.length - (fr - at_)) (cap - (fr - at_)) (by kernel_rfl) (by kernel_rfl) ((σk.line (no / 8)).map B8) 73 HX1.out (part.map B8) HCL.out HSR.out HFIT.out (B8_cell part) ⟨S9.out, ?_⟩)
    simp only [Act.put, List.getElem_toArray, List.getElem_cons_zero, List.getElem_cons_succ, List.setIfInBounds_toArray, List.set_cons_zero, List.set_cons_succ]
    generalize hY : (X.drew.setRow W1.heap.size (splice ((σk.line (no / 8)).map B8) (no % 8 * 8 + fr % 8) (part.map B8)).toArray) = Y at *
    clear hY
    obtain ⟨nx, hnx⟩ : ∃ nx, nx = splice (σk.line (no / 8)) (fr % 64) part := ⟨_, rfl⟩
    rw [← hnx] at HYN HPT1 HPT2 HWORD
    have HNX := hide hnx
    clear hnx
    have hdX := HD.out.below HX2.out
    have hdY : DevL Y b L' σk := hdX.keep (fun k hk => HYG.out.block (hdX.foot_is hk) (fun e => by have := HD.out.foot_is hk; omega))
    have hOL := hO.same HS.out
    have hnl := HK.out
    have kc := pchg_any hdY hnl.ok HHI.out HPT1.out (by omega)
    have e3 : ((no / 8 : Nat) : Int) = (no : Int) / 8 := by omega
    rw [e3] at kc
    have hrn := range_all HYN.out
    have cy3 := Y3.out.cell
    have k1 : ∀ (Y2 : World) (L2 : Lay), DevL Y2 b L2 (σk.put (no / 8) nx) → Calls Try.prog 62 #[.pointer (some ⟨b, 0, none⟩)] Y2 fun e w' => e = .returned (.int .i64 0) ∧ w' = Y2.setCell ⟨b, 4, none⟩ (.int .i64 ((σk.ops + 1 : Nat) : Int)) ∧ DevL w' b L2 { σk.put (no / 8) nx with ops := σk.ops + 1 } := fun Y2 L2 hd2 => poper_any hd2 (by show σk.ops < _; rw [hnl.ops]; omega) (by show σk.arms = []; rw [hnl.arms]; exact harm)
    have K1 := hide k1
    have KC := hide kc
    have HRN := hide hrn
    have HDY := hide hdY
    have HOL := hide hOL
    have nf : ∀ (g : Nat) (t : TypeId) (v : Value), Boxed Y g t v → w.heap.size ≤ g → ¬ HP t → ¬ Foot b L' σk g := fun g t v hb hg ht => box_foot hdY hOL hb hg ht
    have NF := hide nf
    clear k1 kc hrn hdY hdX hOL hnl e3 nf
    gi_wp2_with (first | (refine wpListIn_load_mid rfl 73 (.tmp 11) rfl W1.heap.size 0 (by kernel_rfl) (nx.map B8) (.array 8 71) HRN.out (by kernel_rfl) rfl (by rw [List.length_map, HPT1.out]; kernel_rfl) ?_) | (refine ⟨trivial, ?_⟩; gi_at_call 67; refine (inR (KC.out)).mono ?_; rintro e Y2 ⟨rfl, L2, hd2, hf2, hg2, hN2, hs2⟩; have y32 := hg2.box Y3.out (NF.out _ _ _ Y3.out (Nat.le_refl _) (by unfold HP; decide)); have cy32 := y32.cell; have KO := hide (K1.out Y2 L2 hd2); have HD2 := hide hd2; have HF2 := hide hf2; have HG2 := hide hg2; have HN2 := hide hN2; have HS2 := hide hs2; clear hd2 hf2 hg2 hN2 hs2 cy3) | (refine ⟨trivial, ?_⟩; gi_at_call 62; refine (inR (KO.out)).mono ?_; rintro e Y4 ⟨rfl, hw4, hd4⟩; have HW4 := hide hw4; have HD4 := hide hd4; clear hw4 hd4))
    have hdW := HD.out
    have hOL := HOL.out
    have n3 := box_foot hdW hOL H3.out (by omega) (by unfold HP; decide)
    have n4 := box_foot hdW hOL H4.out (by omega) (by unfold HP; decide)
    have n5 := box_foot hdW hOL H5.out (by omega) (by unfold HP; decide)
    have n6 := box_foot hdW hOL H6.out (by omega) (by unfold HP; decide)
    have n7 := box_foot hdW hOL H7.out (by omega) (by unfold HP; decide)
    have n8 := box_foot hdW hOL H8.out (by omega) (by unfold HP; decide)
    have hnew : ∀ i, Foot b L' σk i → i < w.heap.size ∨ w.heap.size + 6 ≤ i := fun i hi => by
      have q3 : i ≠ w.heap.size := fun e => n3 (e ▸ hi)
      have q4 : i ≠ w.heap.size + 1 := fun e => n4 (e ▸ hi)
      have q5 : i ≠ w.heap.size + 1 + 1 := fun e => n5 (e ▸ hi)
      have q6 : i ≠ w.heap.size + 1 + 1 + 1 := fun e => n6 (e ▸ hi)
      have q7 : i ≠ w.heap.size + 1 + 1 + 1 + 1 := fun e => n7 (e ▸ hi)
      have q8 : i ≠ w.heap.size + 1 + 1 + 1 + 1 + 1 := fun e => n8 (e ▸ hi)
      omega
    have hw4 := HW4.out
    have g1 : Gr (Foot b L' σk) W1 Y4 := by
      rw [hw4]
      exact ((((Gr.of_below HX2.out : Gr (Foot b L' σk) W1 X).trans HYG.out (fun i e => .inr (by omega))).trans HG2.out (fun i h => .inl h))).trans (Gr.set Y2 b 4 _ (X := Foot b L' σk) (.inl rfl)) (fun i h => .inl h)
    refine ⟨g1.kp (fun k o hk hf => ⟨fun hn => by rcases hn with e | e; exact n7 (e ▸ hf); exact n8 (e ▸ hf), ?_⟩), ⟨⟨g1.box H3.out n3, g1.box H4.out n4⟩, g1.box H5.out n5, g1.box H6.out n6, g1.box H7.out n7, g1.box H8.out n8⟩, ⟨g1.sl HSL.out (fun ad he hf => ?_), HG.out.trans g1 (fun i hi => ?_)⟩, L2, ?_, HS.out.trans HS2.out, ?_, fun k hk => ?_⟩
    · rcases foot_cases hdW hOL hf with h1 | ⟨o', h1, h2⟩
      · exact .inl (by omega)
      · rw [hk] at h1; cases h1; exact .inr h2
    · obtain ⟨h1, h2⟩ := haf ad he
      rcases HF.out _ hf with h3 | h3
      · exact h2 h3
      · omega
    · rcases HF.out i hi with h3 | h3
      · exact .inl h3
      · rcases hnew i hi with h4 | h4
        · omega
        · exact .inr (by omega)
    · rw [HSN.out, HWORD.out]; exact HD4.out
    · have h2 := HN2.out; rw [List.length_append, List.length_singleton]; omega
    · rw [HSN.out, HWORD.out] at hk
      rcases HF2.out k hk with h3 | h3
      · exact HF.out k h3
      · have h4 := HYG.out.size; have h5 := HX2.out.size; have h6 := HS1.out; exact .inr (by omega)
  case hdone =>
    rintro D W hD ⟨⟨⟨h3, h4⟩, h5, h6, h7, h8⟩, ⟨hslW, hgW⟩, L', hdW, hsame, hNL, hfoot⟩ hK
    have hOL := hO.same hsame
    have n6 := box_foot hdW hOL h6 (by omega) (by unfold HP; decide)
    have c6 := h6.cell
    have z6 := h6.frozen
    have hw : (unitsV 8 (at_ : Int) (bs.length : Int)).map Int.toNat = wordsOf at_ bs.length := rfl
    rw [hw] at hdW hfoot
    have hl : (unitsV 8 (at_ : Int) (bs.length : Int)).length = (wordsOf at_ bs.length).length := by unfold wordsOf; rw [List.length_map]
    rw [hl] at hNL
    have HD := hide hdW
    have HG := hide hgW
    have HF := hide hfoot
    have HS := hide hsame
    have HK := hide hK
    have H6 := hide h6
    clear h3 h4 h5 h6 h7 h8 hslW hgW hdW hsame hfoot hK hw hl
    gi_wp2
    have hne : D ≠ w.heap.size + 1 + 1 + 1 := by omega
    have hK' : (W.setCell ⟨w.heap.size + 1 + 1 + 1, 0, none⟩ (.int .i64 0)).heap[D]? = some (.deferred (some [])) := (heap_set_ne W _ 0 D _ hne).trans HK.out
    refine ⟨by simp, .inl ⟨_, _, rfl, run_takeDeferred hK', ?_⟩⟩
    have hd1 : DevL (W.setCell ⟨w.heap.size + 1 + 1 + 1, 0, none⟩ (.int .i64 0)) b L' (writeDo bs at_ σ (wordsOf at_ bs.length)) := HD.out.keep (fun k hk => heap_set_ne W _ 0 k _ (fun e => n6 (e ▸ hk)))
    have hgr : Gr (Foot b L σ) w ((W.setCell ⟨w.heap.size + 1 + 1 + 1, 0, none⟩ (.int .i64 0)).putObj D (.deferred none)) := by
      have g1 : Gr (Foot b L σ) w W := (Gr.of_below hB0).trans HG.out (fun i h => .inl h)
      have g2 : Gr (fun k => k = w.heap.size + 1 + 1 + 1) W (W.setCell ⟨w.heap.size + 1 + 1 + 1, 0, none⟩ (.int .i64 0)) := Gr.set W _ 0 _ rfl
      have g3 : Gr (fun k => k = D) (W.setCell ⟨w.heap.size + 1 + 1 + 1, 0, none⟩ (.int .i64 0)) ((W.setCell ⟨w.heap.size + 1 + 1 + 1, 0, none⟩ (.int .i64 0)).putObj D (.deferred none)) := Gr.of_grown (grownBy_putObj' _ D _) (fun k hk => .inl (by cases hk; rfl))
      exact (g1.trans g2 (fun i h => .inr (by omega))).trans g3 (fun i h => .inr (by omega))
    refine ⟨_, results_boxP rfl _ _ (w.heap.size + 1 + 1 + 1) _ _ rfl ((World.putObj_heap_other (Ne.symm hne)).trans (H6.out.set _)) (fun _ h => loadE h), rfl, L', hd1.put_ hK' _, HF.out, hgr, hNL, HS.out⟩
  case hstop =>
    rintro D c pre W2 hD _ hF hK
    exact hF.elim
end Go.Proofs.Ytgfgihpkbbjkfaa
