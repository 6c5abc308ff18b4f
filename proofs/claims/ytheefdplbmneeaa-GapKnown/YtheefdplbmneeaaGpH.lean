/- A gap is made, and laid out of a block and into one. -/
import Derived.Test.YtheefdplbmneeaaGpE
import Derived.Test.YtheefdplbmneeaaGpG
import Derived.Lib.ConvBytes
namespace Go.Proofs.Ytheefdplbmneeaa
open Go.RowKit
set_option linter.unusedVariables false
set_option linter.unusedSimpArgs false

/-- The bytes of a text's gap block. -/
def blk (S : ByteArray) (p : Nat) : List Nat := blkC p (p + (252 - S.size)) (gD (tx S) p)
/-- A block that was laid. -/
def OwnI (w : World) (g : Nat) (bs : List Nat) : Prop := w.heap[g]? = some (.cells (bs.map B8).toArray 69 (0, 0))
theorem OwnI.lt {w : World} {g : Nat} {bs : List Nat} (h : OwnI w g bs) : g < w.heap.size := heap_ltK h
theorem OwnI.below {B : Nat} {w w' : World} {g : Nat} {bs : List Nat} (h : OwnI w g bs) (hb : Below B w w') (hg : g < B) : OwnI w' g bs := (hb.block g hg).trans h
theorem OwnI.keep {X : Nat → Prop} {w w' : World} {g : Nat} {bs : List Nat} (h : OwnI w g bs) (hb : Ke X w w') (hx : ¬ X g) : OwnI w' g bs := (hb.block h.lt hx).trans h
theorem OwnI.sl {w : World} {g : Nat} {bs : List Nat} (h : OwnI w g bs) (hx : ∀ x ∈ bs, x < 256) : Sl w (some ⟨g, 0, none⟩) bs :=
  .inr ⟨g, 0, rfl, h.lt, fun i x hi => ⟨by rw [Nat.zero_add]; simp [World.cell?, show w.heap[g]? = _ from h, hi, B8], hx x (List.mem_of_getElem? hi)⟩⟩
theorem blk_len {S : ByteArray} {p : Nat} (hp : p ≤ S.size) (hs : S.size ≤ 252) : (blk S p).length = 256 := blkC_len (gD_len _ _ (by rw [tx_len]; exact hp) (by rw [tx_len]; exact hs))
theorem blk_lt (S : ByteArray) (p : Nat) : ∀ x ∈ blk S p, x < 256 := blkC_lt (gD_lt _ _ (tx_lt S))
theorem arr_all (W : World) (G : Nat) : (Instr.sliceAt 69 (.pointer (some ⟨G, 0, none⟩)) none none none).run Try.prog W = .ok (.slice (some ⟨G, 0, none⟩) 256 256) W := by
  obtain ⟨it, h1, h2⟩ := gp_info (t := 5) (n := 1) (by kernel_rfl)
  have hu : Try.prog.underlying 69 = some (.array 256 5) := by kernel_rfl
  simp [Instr.sliceAt, Sem.run_bind, run_underlying hu, Instr.sureAddr, Instr.sliceBounds, sizeOf, typeInfo, h1, Addr.add_mid]
section
variable {w : World} {g p : Nat} {S : ByteArray}
set_option maxRecDepth 100000 in
set_option maxHeartbeats 1000000 in
theorem block_any (h : GapL w g S p) : Calls Try.prog 24 #[.pointer (some ⟨g, 0, none⟩)] w fun e w' => ∃ G, e = .returned (.slice (some ⟨G, 0, none⟩) 256 256) ∧ OwnI w' G (blk S p) ∧ w.heap.size ≤ G ∧ Below w.heap.size w w' := by
  obtain ⟨Z, hzl, hz⟩ := zero_image
  have hp := h.1
  have hs := h.2.1
  have kl : Calls Try.prog 41 #[.pointer (some ⟨g, 0, none⟩)] w fun e w' => e = .returned (.agg ((blk S p).map B8).toArray) ∧ Below w.heap.size w w' := laid_any h.2.2 h.dlen h.dlt (by omega) (by omega)
  have hbl := blk_len hp hs
  obtain ⟨bk, hbk⟩ : ∃ bk, bk = blk S p := ⟨_, rfl⟩
  rw [← hbk] at kl hbl ⊢
  have KL := hide kl
  have KN := hide (none_c h.2.2)
  have HZL := hide hzl
  have HBL := hide hbl
  have SI := hide (show (Try.prog.info? 69).map (·.size) = some (bk.map B8).toArray.size by rw [List.size_toArray, List.length_map, hbl]; kernel_rfl)
  have S1 := hide (all_oneCell_toArray (B8_one bk))
  have sl := fun W G => arr_all W G
  clear kl h hzl hp hs hbk hbl
  go_enter Try.func24, Try.ntmps24
  go_wp2_with (first
    | (go_at_call 38; refine (KN.out).mono ?_; rintro e w' ⟨rfl, rfl⟩)
    | (go_at_call 41; refine (KL.out).mono ?_; rintro e W2 ⟨rfl, hB2⟩; have HB2 := hide hB2; have TH := hide (gp_there (heap_alloc_new W2 (.cells Z.toArray 69)) (bk.map B8).toArray.size (by rw [List.size_toArray, List.length_map, HBL.out, HZL.out]; exact Nat.le_refl _)); clear hB2)
    | (refine wpList_store_mid rfl 69 (.tmp 3) (.tmp 7) rfl W2.heap.size 0 (bk.map B8).toArray (by kernel_rfl) (by kernel_rfl) TH.out SI.out S1.out ?_))
  try go_frame
  go_wp2_with (fail)
  go_ret
  have hh := gp_over (vs := bk.map B8) (heap_alloc_new W2 (.cells Z.toArray 69)) (by rw [List.length_map, HBL.out, HZL.out])
  have h4 : Below w'.heap.size w' (W2.alloc (.cells Z.toArray 69)) := HB2.out.alloc HB2.out.size _
  have h5 := (Ke.setCells (X := fun k => k = W2.heap.size) (W2.alloc (.cells Z.toArray 69)) W2.heap.size 0 (bk.map B8) rfl).below (B := w'.heap.size) (by simp; have := HB2.out.size; omega) (fun k hk => by have := HB2.out.size; omega)
  exact ⟨_, rfl, hh, HB2.out.size, h4.trans h5⟩
end
/-- A gap as it is built. -/
def gZ (a b : Int) : List Value := .pointer none :: .int .i64 a :: .int .i64 b :: List.replicate 252 (.int .u8 0)
theorem gp_build (a b : Int) (W : World) : (Instr.build 39 #[(1, .int .i64 a), (2, .int .i64 b)]).run Try.prog W = .ok (.agg (gZ a b).toArray) W := by
  refine run_build W 39 _ _ ?_
  kernel_rfl
theorem wpList_buildG {ops : Array Oper} {rest : List Oper} {o : Oper} {a : Act} {w : World} {Q : Exit → Act → World → Prop} (hgd : o.guard = none) (t : TypeId) (i j : Nat) (x y : Operand) (ho : o.op = .build t #[(i, x), (j, y)]) (vx vy v : Value) (hx : a.eval x = vx) (hy : a.eval y = vy)
    (hr : (Instr.build t #[(i, vx), (j, vy)]).run Try.prog w = .ok v w) (h : wpList Try.prog ops Q rest (a.put o.dst v) w) : wpList Try.prog ops Q (o :: rest) a w :=
  wpList_plain hgd fun K hK => by
    unfold Oper.wp execOp
    simp only [ho, Sem.run_bind, Sem.run_pure, List.map_toArray, List.map_cons, List.map_nil, hx, hy, hr, Result.andThen_ok]
    exact hK _ _ h
theorem wpList_copyG {ops : Array Oper} {rest : List Oper} {o : Oper} {a : Act} {w : World} {Q : Exit → Act → World → Prop} (hgd : o.guard = none) (d s : Operand)
    (ho : o.op = .call { callee := .builtin .copy, args := #[d, s], argTypes := #[22, 22] })
    (dp sp : Option Addr) (dLen dCap sLen sCap : Nat) (hd : a.eval d = .slice dp dLen dCap) (hs : a.eval s = .slice sp sLen sCap)
    (g f to off : Nat) (cur cs : List Nat) (hg : GapC w g f to cur) (hn : cs.length = Nat.min sLen dLen)
    (hpos : 0 < cs.length → dp = some ⟨g, 3 + off, none⟩ ∧ Sl w sp cs) (hfit : off + cs.length ≤ cur.length)
    (h : ∀ w', GapC w' g f to (splice cur off cs) → Ke (fun k => k = g) w w' → wpList Try.prog ops Q rest (a.put o.dst (goInt cs.length)) w') : wpList Try.prog ops Q (o :: rest) a w :=
  wpList_plain hgd fun K hK => gp_copy d s ho dp sp dLen dCap sLen sCap hd hs g f to off cur cs hg hn hpos hfit (fun w' h1 h2 => hK _ _ (h w' h1 h2))
section
variable {w : World}
set_option maxRecDepth 100000 in
set_option maxHeartbeats 1000000 in
theorem between_any (a b : Option Addr) (ca cb : Nat) (A C : List Nat) (ha : Sl w a A) (hc : Sl w b C) (hl : A.length + C.length ≤ 252) :
    Calls Try.prog 32 #[.slice a A.length ca, .slice b C.length cb] w fun e w' => ∃ g, e = .returned (.pointer (some ⟨g, 0, none⟩)) ∧ GapC w' g A.length (252 - C.length) (gD (A ++ C) A.length) ∧ w.heap.size ≤ g ∧ Below w.heap.size w w' := by
  obtain ⟨to, hto⟩ : ∃ to, to = 252 - C.length := ⟨_, rfl⟩
  have et : (252 : Int) - (C.length : Int) = (to : Int) := by omega
  have hb := fun W => gp_build (A.length : Int) (to : Int) W
  have wr : IntKind.i64.wrap ((252 : Int) - (C.length : Int)) = (to : Int) := by rw [IntKind.wrap_i64]; omega
  have s0 := fun g W => gp_all g W
  have HL := hide hl
  have HA := hide ha
  have HC := hide hc
  have HTO := hide hto
  have hn : ∀ W : World, GapC (((W.alloc (.cells (gZ (A.length : Int) (to : Int)).toArray 39))).setCell ⟨W.heap.size, 0, none⟩ (.pointer (some ⟨W.heap.size, 0, none⟩))) W.heap.size A.length to (List.replicate 252 0) := fun W => by
    unfold GapC
    simp only [World.setCell, Array.getElem?_modify, heap_alloc_new]
    simp [gZ, gC, B8]
  have HN := hide (hn w)
  obtain ⟨ZA, hZA⟩ : ∃ ZA, ZA = (gZ (A.length : Int) (to : Int)).toArray := ⟨_, rfl⟩
  have hcl : C.length ≤ 252 := by omega
  rw [← hZA] at HN
  simp only [← hZA] at hb
  have c0 : (w.alloc (.cells ZA 39)).cell? ⟨w.heap.size, 0, none⟩ = some (.pointer none) := by
    rw [hZA]
    have e := heap_alloc_new w (.cells (gZ (A.length : Int) (to : Int)).toArray 39)
    generalize w.alloc (.cells (gZ (A.length : Int) (to : Int)).toArray 39) = X at *
    simp [World.cell?, e, gZ]
  have f0 : (w.alloc (.cells ZA 39)).frozen? ⟨w.heap.size, 0, none⟩ = false := by
    have e := heap_alloc_new w (.cells ZA 39)
    generalize w.alloc (.cells ZA 39) = X at *
    simp [World.frozen?, e]
  have hB1 : Below w.heap.size w ((w.alloc (.cells ZA 39)).setCell ⟨w.heap.size, 0, none⟩ (.pointer (some ⟨w.heap.size, 0, none⟩))) := ((Below.refl _ w).alloc (Nat.le_refl _) _).setCell (Nat.le_refl _) _
  have HB1 := hide hB1
  have HA1 := hide (ha.below hB1)
  have HC1 := hide (hc.below hB1)
  clear hB1 hn hZA ha hc hl hto et
  go_enter Try.func32, Try.ntmps32
  have HBD := hide hb
  clear hb
  go_upto_region 2 with (refine wpList_buildG rfl 39 1 2 (.tmp 7) (.tmp 10) rfl (.int .i64 (A.length : Int)) (.int .i64 (to : Int)) (.agg ZA) (by kernel_rfl) (by kernel_rfl) (HBD.out _) ?_)
  generalize hg1 : w.alloc (.cells ZA 39) = W1 at *
  generalize hge : w.heap.size = g at *
  have HGE := hide hge
  clear hg1 hge HBD
  go_upto_region 3 with (fail)
  clear c0 f0 HA
  generalize W1.setCell ⟨g, 0, none⟩ (.pointer (some ⟨g, 0, none⟩)) = W2 at *
  have HL2 := hide HN.out.lt
  go_wp2_with (refine wpList_copyG rfl (.tmp 20) (.tmp 21) rfl (some ⟨g, 3, none⟩) a 252 252 A.length ca (by kernel_rfl) (by kernel_rfl) g A.length to 0 (List.replicate 252 0) A HN.out (by have := HL.out; show _ = min _ _; omega) (fun h0 => ⟨rfl, HA1.out⟩) (by have := HL.out; simp; omega) ?_; intro w3 g3 k3; have G3 := hide g3; have K3 := hide k3; have c2 := g3.c2; clear g3 k3)
  have hcl3 : (splice (List.replicate 252 0) 0 A).length = 252 := by rw [length_splice _ _ _ (by have := HL.out; simp; omega)]; simp
  have HC3 := hide (K3.out.sl HC1.out (fun g' o e hne => by
    intro hk
    subst hk
    have hsl := HC.out
    rcases hsl with h0 | ⟨b', o', e', hlt, _⟩
    · exact hne h0
    · rw [e] at e'
      cases e'
      have := HGE.out
      omega))
  obtain ⟨q1, n1, s1, hp1⟩ := cut_from g to (by have := HTO.out; omega)
  have S1 := hide s1
  have HN2 : Hid (C.length = Nat.min C.length (252 - to)) := by show _ = min _ _; have := HTO.out; have := HL.out; omega
  have HN := HN2
  have HP : Hid (0 < C.length → (some ⟨g, q1, none⟩ : Option Addr) = some ⟨g, 3 + to, none⟩) := fun h0 => by rw [hp1 (by have := HTO.out; omega)]
  have HF : Hid (to + C.length ≤ (splice (List.replicate 252 0) 0 A).length) := by show _ ≤ _; rw [hcl3]; have := HTO.out; omega
  clear s0 s1 hp1 hcl3
  refine wp_region_held_drew (S := fun X => X.cell? ⟨g, 2, none⟩ = some (.int .i64 (to : Int))) (by kernel_rfl) c2 (fun hS => ?_)
  refine wpAnyH_take (i := 0) (v := (.pointer (some ⟨g, 0, none⟩))) rfl (by kernel_rfl) (by kernel_rfl) (by kernel_rfl) (fun _ _ _ h => h) (Or.inl ⟨by kernel_rfl, fun w' hw => by (go_simp)⟩) hS ?_
  refine wpAnyH_take (i := 1) (v := (.pointer (some ⟨g, 0, none⟩))) rfl (by kernel_rfl) (by kernel_rfl) (by kernel_rfl) (fun _ _ _ h => h) (Or.inl ⟨by kernel_rfl, fun w' hw => by (go_simp)⟩) hS ?_
  refine wpAnyH_take (i := 2) (v := (.pointer (some ⟨g, 3, none⟩))) rfl (by kernel_rfl) (by kernel_rfl) (by kernel_rfl) (fun _ _ _ h => h) (Or.inl ⟨by kernel_rfl, fun w' hw => by (go_simp)⟩) hS ?_
  refine wpAnyH_take (i := 3) (v := (.pointer (some ⟨g, 0, none⟩))) rfl (by kernel_rfl) (by kernel_rfl) (by kernel_rfl) (fun _ _ _ h => h) (Or.inl ⟨by kernel_rfl, fun w' hw => by (go_simp)⟩) hS ?_
  refine wpAnyH_take (i := 4) (v := (.pointer (some ⟨g, 0, none⟩))) rfl (by kernel_rfl) (by kernel_rfl) (by kernel_rfl) (fun _ _ _ h => h) (Or.inl ⟨by kernel_rfl, fun w' hw => by (go_simp)⟩) hS ?_
  refine wpAnyH_take (i := 5) (v := (.pointer (some ⟨g, 2, none⟩))) rfl (by kernel_rfl) (by kernel_rfl) (by kernel_rfl) (fun _ _ _ h => h) (Or.inl ⟨by kernel_rfl, fun w' hw => by (go_simp)⟩) hS ?_
  refine wpAnyH_take (i := 6) (v := (.int .i64 (to : Int))) rfl (by kernel_rfl) (by kernel_rfl) (by kernel_rfl) (fun _ _ _ h => h) (Or.inl ⟨by kernel_rfl, fun w' hw => by (go_simp)⟩) hS ?_
  refine wpAnyH_take (i := 7) (v := (.slice (some ⟨g, q1, none⟩) (252 - to) n1)) rfl (by kernel_rfl) (by kernel_rfl) (by kernel_rfl) (fun _ _ _ h => h) (Or.inl ⟨by kernel_rfl, fun w' hw => by (have s1 := S1.out; go_simp)⟩) hS ?_
  refine wpAnyH_take (i := 8) (v := (.slice b C.length cb)) rfl (by kernel_rfl) (by kernel_rfl) (by kernel_rfl) (fun _ _ _ h => h) (Or.inl ⟨by kernel_rfl, fun w' hw => by (go_simp)⟩) hS ?_
  refine gp_op (i := 9) (by kernel_rfl) rfl (by kernel_rfl) (by kernel_rfl) (gp_copy (.tmp 30) (.tmp 31) rfl (some ⟨g, q1, none⟩) b (252 - to) n1 C.length cb (by kernel_rfl) (by kernel_rfl) g A.length to to (splice (List.replicate 252 0) 0 A) C G3.out HN.out (fun h0 => ⟨HP.out h0, (HC3.out : Sl w3.drew b C)⟩) HF.out (fun w4 g4 k4 => ⟨g4.c2, ?_⟩))
  have G4 := hide g4
  have K4 := hide k4
  clear g4 k4
  try simp only [Act.put, List.getElem_toArray, List.getElem_cons_zero, List.getElem_cons_succ, List.setIfInBounds_toArray, List.set_cons_zero, List.set_cons_succ]
  go_wp2_with (fail)
  go_ret
  have hh := G4.out
  have e := go_made A C HL.out
  rw [HTO.out, e] at hh
  refine ⟨g, rfl, hh, by rw [HGE.out]; exact Nat.le_refl _, ?_⟩
  have h5 := ((K3.out.trans (Ke.of_below ((Below.refl _ w3).drew))).trans K4.out).below (B := g) (Nat.le_of_lt HL2.out) (fun k hk => by omega)
  rw [HGE.out]
  exact HB1.out.trans h5
end
end Go.Proofs.Ytheefdplbmneeaa
