/- A text with a gap as a block; texts as rows of bytes; copy and clear, at the operation. -/
import Derived.Test.YtheefdplbmneeaaGpM
import Derived.Test.YtheefdplbmneeaaDisp
import Derived.WalkSmall
import Derived.BigQuiet
import Derived.ChangeKeysEq
import Derived.LaidEql
import Derived.Laws.StructEq
import Derived.Laws.Tables
import Derived.Deep.RegionHeld
namespace Go.Proofs.Ytheefdplbmneeaa
open Go.RowKit
set_option linter.unusedVariables false
set_option linter.unusedSimpArgs false

/-- Blocks outside a set are kept. -/
def Ke (X : Nat → Prop) (w w' : World) : Prop := w'.os = w.os ∧ w'.tape = w.tape ∧ w'.output = w.output ∧ w.heap.size ≤ w'.heap.size ∧ ∀ k, k < w.heap.size → ¬ X k → w'.heap[k]? = w.heap[k]?
theorem Ke.refl (X : Nat → Prop) (w : World) : Ke X w w := ⟨rfl, rfl, rfl, Nat.le_refl _, fun _ _ _ => rfl⟩
theorem Ke.of_below {X : Nat → Prop} {w w' : World} (h : Below w.heap.size w w') : Ke X w w' := ⟨h.os, h.tape, h.output, h.size, fun k hk _ => h.block k hk⟩
theorem Ke.trans {X : Nat → Prop} {a b c : World} (h : Ke X a b) (k : Ke X b c) : Ke X a c :=
  ⟨k.1.trans h.1, k.2.1.trans h.2.1, k.2.2.1.trans h.2.2.1, Nat.le_trans h.2.2.2.1 k.2.2.2.1, fun i hi hx => (k.2.2.2.2 i (Nat.lt_of_lt_of_le hi h.2.2.2.1) hx).trans (h.2.2.2.2 i hi hx)⟩
theorem Ke.size {X : Nat → Prop} {a b : World} (h : Ke X a b) : a.heap.size ≤ b.heap.size := h.2.2.2.1
theorem Ke.block {X : Nat → Prop} {a b : World} (h : Ke X a b) {k : Nat} (hk : k < a.heap.size) (hx : ¬ X k) : b.heap[k]? = a.heap[k]? := h.2.2.2.2 k hk hx
theorem Ke.mono {X Y : Nat → Prop} {a b : World} (h : Ke X a b) (hxy : ∀ k, X k → Y k) : Ke Y a b := ⟨h.1, h.2.1, h.2.2.1, h.2.2.2.1, fun k hk hy => h.2.2.2.2 k hk (fun hx => hy (hxy k hx))⟩
theorem heap_ltK {w : World} {k : Nat} {o : Obj} (h : w.heap[k]? = some o) : k < w.heap.size := (Array.getElem?_eq_some_iff.1 h).1
theorem Ke.keep {X : Nat → Prop} {a b : World} (h : Ke X a b) {k : Nat} {o : Obj} (hk : a.heap[k]? = some o) (hx : ¬ X k) : b.heap[k]? = some o := (h.block (heap_ltK hk) hx).trans hk
theorem Ke.below {X : Nat → Prop} {B : Nat} {a b : World} (h : Ke X a b) (hB : B ≤ a.heap.size) (hX : ∀ k, X k → B ≤ k) : Below B a b :=
  ⟨h.1, h.2.1, h.2.2.1, h.2.2.2.1, fun k hk => h.2.2.2.2 k (by omega) (fun hx => by have := hX k hx; omega)⟩
theorem Ke.setRow {X : Nat → Prop} (w : World) (g : Nat) (c : Array Value) (hx : X g) : Ke X w (w.setRow g c) :=
  ⟨rfl, rfl, rfl, by simp [World.setRow], fun k hk hn => setRow_other w g k c (fun e => hn (e ▸ hx))⟩
theorem Ke.set (w : World) (b o : Nat) (v : Value) {X : Nat → Prop} (hx : X b) : Ke X w (w.setCell ⟨b, o, none⟩ v) :=
  ⟨rfl, rfl, rfl, by simp [World.setCell], fun k hk hn => by
    have hne : b ≠ k := fun e => hn (by rw [← e]; exact hx)
    simp only [World.setCell, Array.getElem?_modify]
    rw [if_neg hne]⟩
theorem Ke.sl {X : Nat → Prop} {a b : World} (h : Ke X a b) {ad : Option Addr} {bs : List Nat} (hs : Sl a ad bs) (hx : ∀ g o, ad = some ⟨g, o, none⟩ → bs ≠ [] → ¬ X g) : Sl b ad bs := by
  rcases hs with rfl | ⟨g, off, ha, hl, hs⟩
  · exact .inl rfl
  · by_cases hb : bs = []
    · exact .inl hb
    · refine .inr ⟨g, off, ha, Nat.lt_of_lt_of_le hl h.size, fun i x hi => ⟨?_, (hs i x hi).2⟩⟩
      have e := h.block hl (hx g off ha hb)
      have := (hs i x hi).1
      unfold World.cell? at this ⊢
      rw [e]; exact this

/-- A text's bytes. -/
def tx (S : ByteArray) : List Nat := S.data.toList.map UInt8.toNat
theorem tx_len (S : ByteArray) : (tx S).length = S.size := by
  show (S.data.toList.map _).length = S.data.size
  rw [List.length_map, Array.length_toList]
theorem tx_lt (S : ByteArray) : ∀ x ∈ tx S, x < 256 := by
  intro x hx
  obtain ⟨c, _, rfl⟩ := List.mem_map.1 hx
  exact c.toNat_lt
theorem tx_app (S T : ByteArray) : tx (S ++ T) = tx S ++ tx T := by
  unfold tx
  rw [ByteArray.data_append, Array.toList_append, List.map_append]
theorem tx_cut (S : ByteArray) (a b : Nat) : tx (S.extract a b) = ((tx S).drop a).take (b - a) := by
  unfold tx
  rw [ByteArray.data_extract, Array.toList_extract, List.map_drop.symm, List.map_take.symm]
theorem tx_inj {S T : ByteArray} (h : tx S = tx T) : S = T := by
  unfold tx at h
  have h2 : S.data.toList = T.data.toList := (List.map_inj_right (fun a b e => UInt8.toNat_inj.1 e)).1 h
  exact ByteArray.ext (Array.toList_inj.1 h2)
/-- The text of bytes. -/
def ofB (bs : List Nat) : ByteArray := ⟨(bs.map Nat.toUInt8).toArray⟩
theorem tx_of {bs : List Nat} (h : ∀ x ∈ bs, x < 256) : tx (ofB bs) = bs := by
  unfold tx ofB
  rw [List.toList_toArray, List.map_map]
  refine (List.map_congr_left fun x hx => ?_).trans (List.map_id _)
  show (Nat.toUInt8 x).toNat = x
  have := h x hx
  simp [Nat.toUInt8, UInt8.toNat_ofNat']
  omega
theorem of_tx (S : ByteArray) : ofB (tx S) = S := tx_inj (tx_of (tx_lt S))
theorem of_size (bs : List Nat) : (ofB bs).size = bs.length := by simp [ofB, ByteArray.size]

/-- The cells of a gap. -/
def gC (g f to : Nat) (d : List Nat) : List Value := .pointer (some ⟨g, 0, none⟩) :: .int .i64 (f : Int) :: .int .i64 (to : Int) :: d.map B8
/-- A gap lies at a block, as it stands. -/
def GapC (w : World) (g f to : Nat) (d : List Nat) : Prop := w.heap[g]? = some (.cells (gC g f to d).toArray 39 (0, 0))
section
variable {w w' : World} {g f to : Nat} {d : List Nat}
theorem GapC.lt (h : GapC w g f to d) : g < w.heap.size := heap_ltK h
theorem GapC.frozen (h : GapC w g f to d) (o : Nat) : w.frozen? ⟨g, o, none⟩ = false := by simp [World.frozen?, show w.heap[g]? = _ from h]
theorem GapC.c0 (h : GapC w g f to d) : w.cell? ⟨g, 0, none⟩ = some (.pointer (some ⟨g, 0, none⟩)) := by simp [World.cell?, show w.heap[g]? = _ from h, gC]
theorem GapC.c1 (h : GapC w g f to d) : w.cell? ⟨g, 1, none⟩ = some (.int .i64 (f : Int)) := by simp [World.cell?, show w.heap[g]? = _ from h, gC]
theorem GapC.c2 (h : GapC w g f to d) : w.cell? ⟨g, 2, none⟩ = some (.int .i64 (to : Int)) := by simp [World.cell?, show w.heap[g]? = _ from h, gC]
theorem GapC.cd (h : GapC w g f to d) (i x : Nat) (hx : d[i]? = some x) : w.cell? ⟨g, 3 + i, none⟩ = some (.int .u8 (x : Int)) := by
  have e : 3 + i = i + 1 + 1 + 1 := by omega
  simp [World.cell?, show w.heap[g]? = _ from h, gC, e, hx, B8]
theorem GapC.of_block (h : GapC w g f to d) (e : w'.heap[g]? = w.heap[g]?) : GapC w' g f to d := e.trans h
theorem GapC.below {B : Nat} (h : GapC w g f to d) (hb : Below B w w') (hg : g < B) : GapC w' g f to d := h.of_block (hb.block g hg)
theorem GapC.drew (h : GapC w g f to d) : GapC w.drew g f to d := h
theorem GapC.set1 (h : GapC w g f to d) (f' : Nat) : GapC (w.setCell ⟨g, 1, none⟩ (.int .i64 (f' : Int))) g f' to d := by
  unfold GapC at *
  simp only [World.setCell, Array.getElem?_modify, h]
  simp [gC]
theorem GapC.set2 (h : GapC w g f to d) (to' : Nat) : GapC (w.setCell ⟨g, 2, none⟩ (.int .i64 (to' : Int))) g f to' d := by
  unfold GapC at *
  simp only [World.setCell, Array.getElem?_modify, h]
  simp [gC]
theorem GapC.sl (h : GapC w g f to d) (hd : ∀ x ∈ d, x < 256) (off n : Nat) : Sl w (some ⟨g, 3 + off, none⟩) ((d.drop off).take n) := by
  refine .inr ⟨g, 3 + off, rfl, h.lt, fun i x hi => ?_⟩
  rw [List.getElem?_take] at hi
  split at hi
  · rw [List.getElem?_drop] at hi
    exact ⟨by rw [Nat.add_assoc]; exact h.cd _ _ hi, hd x (List.mem_of_getElem? hi)⟩
  · cases hi
end
theorem splice_map8 (l c : List Nat) (o : Nat) : (splice l o c).map B8 = splice (l.map B8) o (c.map B8) := by
  simp [splice, List.map_take, List.map_drop]
theorem gC_splice (g f to : Nat) (d c : List Nat) (o : Nat) : splice (gC g f to d) (3 + o) (c.map B8) = gC g f to (splice d o c) := by
  unfold gC splice
  have e1 : 3 + o = o + 1 + 1 + 1 := by omega
  have e2 : 3 + o + (c.map B8).length = o + c.length + 1 + 1 + 1 := by rw [List.length_map]; omega
  rw [e2, e1]
  simp [List.map_take, List.map_drop]
theorem B8_one' (bs : List Nat) : ∀ v ∈ bs.map B8, v.oneCell' = true := B8_one bs

/-- A text with a gap lies at a block. -/
def GapL (w : World) (g : Nat) (S : ByteArray) (p : Nat) : Prop := p ≤ S.size ∧ S.size ≤ 252 ∧ GapC w g p (p + (252 - S.size)) (gD (tx S) p)
section
variable {w w' : World} {g p : Nat} {S : ByteArray}
theorem GapL.lt (h : GapL w g S p) : g < w.heap.size := h.2.2.lt
theorem GapL.of_block (h : GapL w g S p) (e : w'.heap[g]? = w.heap[g]?) : GapL w' g S p := ⟨h.1, h.2.1, h.2.2.of_block e⟩
theorem GapL.below (h : GapL w g S p) (hb : Below w.heap.size w w') : GapL w' g S p := h.of_block (hb.block g h.lt)
theorem GapL.keep {X : Nat → Prop} (h : GapL w g S p) (hb : Ke X w w') (hx : ¬ X g) : GapL w' g S p := h.of_block (hb.block h.lt hx)
theorem GapL.dlen (h : GapL w g S p) : (gD (tx S) p).length = 252 := gD_len _ _ (by rw [tx_len]; exact h.1) (by rw [tx_len]; exact h.2.1)
theorem GapL.dlt (h : GapL w g S p) : ∀ x ∈ gD (tx S) p, x < 256 := gD_lt _ _ (tx_lt S)
end

theorem gp_info {t : TypeId} {n : Nat} (h : (Try.prog.info? t).map (·.size) = some n) : ∃ i, Try.prog.info? t = some i ∧ i.size = n := by
  cases hq : Try.prog.info? t with
  | none => rw [hq] at h; cases h
  | some i => rw [hq] at h; exact ⟨i, rfl, by simpa using h⟩
theorem gp_neq (a : Addr) (w : World) : (binOp .neq 36 (.pointer (some a)) (.pointer (some a))).run Try.prog w = .ok (.bool false) w := by
  obtain ⟨i, hi, hs⟩ := gp_info (t := 39) (n := 255) (by kernel_rfl)
  have h : ∀ d : Nat, (Op.equalIn (d + 1) 36 (.pointer (some a)) (.pointer (some a))).run Try.prog w = .ok true w := fun d => by
    simp [Op.equalIn, run_underlying Try.underlying36, sizeOf, typeInfo, hi, run_sameAddr_same]
  simp only [binOp]
  simp [Op.equal, Op.maxDepth, h 9999]
/-- Bytes of the data, by two places. -/
theorem gp_slice (g l h : Nat) (hl : l ≤ h) (hh : h ≤ 252) (w : World) : (Instr.sliceAt 37 (.pointer (some ⟨g, 3, none⟩)) (some (.int .i64 (l : Int))) (some (.int .i64 (h : Int))) none).run Try.prog w = .ok (.slice (some ⟨g, if 252 = l then 3 else 3 + l, none⟩) (h - l) (252 - l)) w := by
  obtain ⟨it, h1, h2⟩ := gp_info (t := 5) (n := 1) (by kernel_rfl)
  have hu : Try.prog.underlying 37 = some (.array 252 5) := by kernel_rfl
  have h3 : (0 : Int) ≤ (h : Int) ∧ (h : Int) ≤ (252 : Nat) := by omega
  have h4 : (0 : Int) ≤ (l : Int) ∧ (l : Int) ≤ (h : Nat) := by omega
  by_cases e : 252 = l
  · subst e
    obtain rfl : h = 252 := by omega
    simp [Instr.sliceAt, Sem.run_bind, run_underlying hu, Instr.sureAddr, Instr.sliceBounds, Instr.sliceBound, asIntOf, sizeOf, typeInfo, h1]
  · simp only [Instr.sliceAt, Sem.run_bind, run_underlying hu, Result.andThen_ok, Instr.sureAddr, Sem.run_pure, Instr.sliceBounds, Instr.sliceBound, asIntOf, h3, h4, and_self, if_true, sizeOf, typeInfo, h1, h2, if_false, Int.toNat_natCast, Nat.mul_one, Addr.add_mid, run_program, e]
theorem gp_from (g l : Nat) (hl : l ≤ 252) (w : World) : (Instr.sliceAt 37 (.pointer (some ⟨g, 3, none⟩)) (some (.int .i64 (l : Int))) none none).run Try.prog w = .ok (.slice (some ⟨g, if 252 = l then 3 else 3 + l, none⟩) (252 - l) (252 - l)) w := by
  obtain ⟨it, h1, h2⟩ := gp_info (t := 5) (n := 1) (by kernel_rfl)
  have hu : Try.prog.underlying 37 = some (.array 252 5) := by kernel_rfl
  have h4 : (0 : Int) ≤ (l : Int) ∧ (l : Int) ≤ (252 : Nat) := by omega
  by_cases e : 252 = l
  · subst e
    simp [Instr.sliceAt, Sem.run_bind, run_underlying hu, Instr.sureAddr, Instr.sliceBounds, Instr.sliceBound, asIntOf, sizeOf, typeInfo, h1]
  · simp only [Instr.sliceAt, Sem.run_bind, run_underlying hu, Result.andThen_ok, Instr.sureAddr, Sem.run_pure, Instr.sliceBounds, Instr.sliceBound, asIntOf, h4, and_self, if_true, sizeOf, typeInfo, h1, h2, if_false, Int.toNat_natCast, Nat.mul_one, Addr.add_mid, run_program, e]
theorem gp_to (g h : Nat) (hh : h ≤ 252) (w : World) : (Instr.sliceAt 37 (.pointer (some ⟨g, 3, none⟩)) none (some (.int .i64 (h : Int))) none).run Try.prog w = .ok (.slice (some ⟨g, 3, none⟩) h 252) w := by
  obtain ⟨it, h1, h2⟩ := gp_info (t := 5) (n := 1) (by kernel_rfl)
  have hu : Try.prog.underlying 37 = some (.array 252 5) := by kernel_rfl
  have h3 : (0 : Int) ≤ (h : Int) ∧ (h : Int) ≤ (252 : Nat) := by omega
  simp [Instr.sliceAt, Sem.run_bind, run_underlying hu, Instr.sureAddr, Instr.sliceBounds, Instr.sliceBound, asIntOf, h3, sizeOf, typeInfo, h1, Addr.add_mid]
  omega
theorem gp_all (g : Nat) (w : World) : (Instr.sliceAt 37 (.pointer (some ⟨g, 3, none⟩)) none none none).run Try.prog w = .ok (.slice (some ⟨g, 3, none⟩) 252 252) w := by
  obtain ⟨it, h1, h2⟩ := gp_info (t := 5) (n := 1) (by kernel_rfl)
  have hu : Try.prog.underlying 37 = some (.array 252 5) := by kernel_rfl
  simp [Instr.sliceAt, Sem.run_bind, run_underlying hu, Instr.sureAddr, Instr.sliceBounds, sizeOf, typeInfo, h1, Addr.add_mid]
theorem gp_setRow (w : World) (g : Nat) (c c' : Array Value) (t : TypeId) (f : Nat × Nat) (h : w.heap[g]? = some (.cells c t f)) : (w.setRow g c').heap[g]? = some (.cells c' t f) := by
  simp [World.setRow, Array.getElem?_modify, h]
/-- 'copy' at the operation: bytes into a gap. -/
theorem gp_copy {o : Oper} {a : Act} {w : World} {K : Act → World → Prop} {Q : Exit → Act → World → Prop} (d s : Operand)
    (ho : o.op = .call { callee := .builtin .copy, args := #[d, s], argTypes := #[22, 22] })
    (dp sp : Option Addr) (dLen dCap sLen sCap : Nat) (hd : a.eval d = .slice dp dLen dCap) (hs : a.eval s = .slice sp sLen sCap)
    (g f to off : Nat) (cur cs : List Nat) (hg : GapC w g f to cur) (hn : cs.length = Nat.min sLen dLen)
    (hpos : 0 < cs.length → dp = some ⟨g, 3 + off, none⟩ ∧ Sl w sp cs) (hfit : off + cs.length ≤ cur.length)
    (h : ∀ w', GapC w' g f to (splice cur off cs) → Ke (fun k => k = g) w w' → K (a.put o.dst (goInt cs.length)) w') : o.wp Try.prog a w K Q := by
  by_cases h0 : cs.length = 0
  · obtain rfl : cs = [] := List.eq_nil_of_length_eq_zero h0
    have hrun := run_copy_none (P := Try.prog) w 22 22 o.type 5 dp sp dLen dCap sLen sCap Try.underlying22 (by kernel_rfl) (by simpa using hn.symm)
    unfold Oper.wp
    simp [execOp, ho, resolve, invoke, builtin, hd, hs, hrun, Result.andThen]
    exact h w (by simpa [splice] using hg) (Ke.refl _ _)
  · obtain ⟨rfl, hsl⟩ := hpos (by omega)
    rcases hsl with rfl | ⟨b, o2, rfl, hb, hseg⟩
    · exact absurd rfl h0
    · have hsrc : ∀ j v, (cs.map B8)[j]? = some v → w.cell? ((⟨b, o2, none⟩ : Addr).add j) = some v := fun j v hv => by
        rw [List.getElem?_map] at hv
        obtain ⟨x, hx, rfl⟩ := Option.map_eq_some_iff.1 hv
        rw [Addr.add_mid]
        exact (hseg j x hx).1
      have hrun := run_copy_row (P := Try.prog) w 22 22 o.type 5 g (3 + off) dLen dCap ⟨b, o2, none⟩ sLen sCap _ _ (cs.map B8) Try.underlying22 (by kernel_rfl) hg (by rw [List.length_map]; exact hn) hsrc (by simp [gC]; omega) (B8_one cs)
      unfold Oper.wp
      simp [execOp, ho, resolve, invoke, builtin, hd, hs, hrun, Result.andThen]
      refine h _ ?_ (Ke.setRow w g _ rfl)
      have e := gp_setRow w g _ (gC g f to (splice cur off cs)).toArray _ _ hg
      unfold GapC
      rw [← e]
      congr 3
      rw [← gC_splice]
      simp [splice]
/-- 'copy' of a string at the operation. -/
theorem gp_copyS {o : Oper} {a : Act} {w : World} {K : Act → World → Prop} {Q : Exit → Act → World → Prop} (d s : Operand)
    (ho : o.op = .call { callee := .builtin .copy, args := #[d, s], argTypes := #[22, 9] })
    (dp : Option Addr) (dLen dCap : Nat) (T : ByteArray) (hd : a.eval d = .slice dp dLen dCap) (hs : a.eval s = .string T)
    (g f to off : Nat) (cur : List Nat) (hg : GapC w g f to cur) (hn : T.size ≤ dLen)
    (hpos : 0 < T.size → dp = some ⟨g, 3 + off, none⟩) (hfit : off + T.size ≤ cur.length)
    (h : ∀ w', GapC w' g f to (splice cur off (tx T)) → Ke (fun k => k = g) w w' → K (a.put o.dst (.int .i64 (T.size : Int))) w') : o.wp Try.prog a w K Q := by
  obtain ⟨it, h1, h2⟩ := gp_info (t := 5) (n := 1) (by kernel_rfl)
  have hmin : Nat.min T.size dLen = T.size := Nat.min_eq_left hn
  have hcs : List.take T.size (List.map (fun (b : UInt8) => Value.int .u8 (b.toNat : Int)) T.data.toList) = (tx T).map B8 := by
    rw [List.take_of_length_le (by rw [List.length_map, Array.length_toList]; exact Nat.le_refl _), tx, List.map_map]
    rfl
  have hstep : ∃ w', (Builtin.copy_ #[22, 9] o.type #[.slice dp dLen dCap, .string T]).run Try.prog w = .ok (.int .i64 (T.size : Int)) w' ∧ GapC w' g f to (splice cur off (tx T)) ∧ Ke (fun k => k = g) w w' := by
    by_cases h0 : T.size = 0
    · have e0 : tx T = [] := List.eq_nil_of_length_eq_zero (by rw [tx_len]; exact h0)
      refine ⟨w, ?_, by rw [e0]; simpa [splice] using hg, Ke.refl _ _⟩
      cases dp with
      | none => simp [Builtin.copy_, run_underlying Try.underlying22, Builtin.lenOf, sizeOf, typeInfo, h1, Builtin.firstCells, hmin, hcs, e0, goInt, Sem.run_bind]
      | some ad => simp [Builtin.copy_, run_underlying Try.underlying22, Builtin.lenOf, sizeOf, typeInfo, h1, Builtin.firstCells, hmin, hcs, e0, goInt, Sem.run_bind, storeCells]
    · obtain rfl := hpos (by omega)
      have hst := run_storeCells_at Try.prog g (3 + off) 39 ((tx T).map B8) 0 (gC g f to cur).toArray w hg (by simp [gC, tx_len]; omega) (B8_one _)
      have e := gp_setRow w g _ (gC g f to (splice cur off (tx T))).toArray _ _ hg
      have hcells : ((gC g f to cur).toArray.toList.take (3 + off + 0) ++ (tx T).map B8 ++ (gC g f to cur).toArray.toList.drop (3 + off + 0 + ((tx T).map B8).length)).toArray = (gC g f to (splice cur off (tx T))).toArray := by
        rw [← gC_splice]
        simp [splice]
      rw [hcells] at hst
      refine ⟨_, ?_, e, Ke.setRow w g _ rfl⟩
      simp [Builtin.copy_, run_underlying Try.underlying22, Builtin.lenOf, sizeOf, typeInfo, h1, Builtin.firstCells, hmin, hcs, goInt, Sem.run_bind, hst]
  obtain ⟨w', hr, hG, hK⟩ := hstep
  unfold Oper.wp
  simp [execOp, ho, resolve, invoke, builtin, hd, hs, hr, Result.andThen]
  exact h w' hG hK
/-- 'clear' at the operation. -/
theorem gp_clear {o : Oper} {a : Act} {w : World} {K : Act → World → Prop} {Q : Exit → Act → World → Prop} (d : Operand)
    (ho : o.op = .call { callee := .builtin .clear, args := #[d], argTypes := #[22] })
    (dp : Option Addr) (n dCap : Nat) (hd : a.eval d = .slice dp n dCap)
    (g f to off : Nat) (cur : List Nat) (hg : GapC w g f to cur)
    (hpos : 0 < n → dp = some ⟨g, 3 + off, none⟩) (hfit : off + n ≤ cur.length)
    (h : ∀ w', GapC w' g f to (splice cur off (List.replicate n 0)) → Ke (fun k => k = g) w w' → K (a.put o.dst (.tuple #[])) w') : o.wp Try.prog a w K Q := by
  obtain ⟨i0, hi, hz0, hz1, hz2⟩ := info_parts Try.info5
  have hstep : ∃ w', (Builtin.clear_ #[22] o.type #[.slice dp n dCap]).run Try.prog w = .ok (.tuple #[]) w' ∧ GapC w' g f to (splice cur off (List.replicate n 0)) ∧ Ke (fun k => k = g) w w' := by
    by_cases h0 : n = 0
    · subst h0
      refine ⟨w, ?_, by simpa [splice] using hg, Ke.refl _ _⟩
      cases dp with
      | none => simp [Builtin.clear_, run_underlying Try.underlying22]
      | some ad => simp [Builtin.clear_, run_underlying Try.underlying22]
    · obtain rfl := hpos (by omega)
      have hz : (Builtin.zeroCells (Value.int .u8 0).cells n).toList = (List.replicate n 0).map B8 := by
        apply List.ext_getElem?
        intro j
        simp [Builtin.zeroCells, Value.cells, B8, Nat.mod_one]
        by_cases hj : j < n
        · simp [hj]
        · simp [hj]
      have hst := run_storeCells_at Try.prog g (3 + off) 39 ((List.replicate n 0).map B8) 0 (gC g f to cur).toArray w hg (by simp [gC]; omega) (B8_one _)
      have e := gp_setRow w g _ (gC g f to (splice cur off (List.replicate n 0))).toArray _ _ hg
      have hcells : ((gC g f to cur).toArray.toList.take (3 + off + 0) ++ (List.replicate n 0).map B8 ++ (gC g f to cur).toArray.toList.drop (3 + off + 0 + ((List.replicate n 0).map B8).length)).toArray = (gC g f to (splice cur off (List.replicate n 0))).toArray := by
        rw [← gC_splice]
        simp [splice]
      rw [hcells] at hst
      refine ⟨_, ?_, e, Ke.setRow w g _ rfl⟩
      obtain ⟨m, rfl⟩ : ∃ m, n = m + 1 := ⟨n - 1, by omega⟩
      rw [List.map_replicate] at hst hz
      simp [Builtin.clear_, run_underlying Try.underlying22, zeroValue, typeInfo, hi, hz0, Sem.run_bind, hz, hst]
  obtain ⟨w', hr, hG, hK⟩ := hstep
  unfold Oper.wp
  simp [execOp, ho, resolve, invoke, builtin, hd, hr, Result.andThen]
  exact h w' hG hK
/-- The last operation of a region that draws its order. -/
theorem gp_op {P : Program} {ops : Array Oper} {Q : Exit → Act → World → Prop} {md : Region.Mode} {S : World → Prop} {i : Nat} {o : Oper} {fuel : Nat} {listed : Array Bool} {a : Act} {w : World} (hr : Region.ready md ops listed = [i]) (ho : ops[i]? = some o) (hw : Region.wanted o (yielded ops a.tmps) = true) (hr' : Region.ready md ops (listed.setIfInBounds i true) = [])
    (h : o.wp P a w (fun a' w' => S w' ∧ Q .normal a' w') Q) : wpAnyH P md ops Q S (fuel + 1) listed a w := by
  refine wpAnyH_ready (rs := [i]) hr (by simp) (AllReadyH.cons ho (fun K hK => ?_) AllReadyH.nil)
  rw [if_pos hw]
  exact Oper.wp_mono (fun a' w' h' => hK a' w' h'.1 (fun _ => wpAnyH_done hr' h'.2 fuel)) h
theorem gp_go {P : Program} {ops : Array Oper} {Q : Exit → Act → World → Prop} {md : Region.Mode} {S : World → Prop} {i : Nat} {o : Oper} {fuel : Nat} {listed : Array Bool} {a : Act} {w : World} (hr : Region.ready md ops listed = [i]) (ho : ops[i]? = some o) (hw : Region.wanted o (yielded ops a.tmps) = true)
    (h : ∀ K' : Act → World → Prop, Shut (∀ a w, S w → wpAnyH P md ops Q S fuel (listed.setIfInBounds i true) a w → K' a w) → Oper.wp P o a w K' Q) : wpAnyH P md ops Q S (fuel + 1) listed a w := by
  refine wpAnyH_ready (rs := [i]) hr (by simp) (AllReadyH.cons ho (fun K hK => ?_) AllReadyH.nil)
  rw [if_pos hw]
  exact h K (fun a w hs hq => hK a w hs (fun _ => hq))
end Go.Proofs.Ytheefdplbmneeaa
