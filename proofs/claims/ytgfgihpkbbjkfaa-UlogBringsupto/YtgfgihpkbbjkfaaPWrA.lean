/- Package pmem: what a word that is written does to a device; slices of words and of bytes; copy, at the operation. -/
import Derived.Test.YtgfgihpkbbjkfaaPChgN
import Derived.Test.YtgfgihpkbbjkfaaPRnd
namespace Go.Proofs.Ytgfgihpkbbjkfaa
open Go.RowKit Go.Shelf
set_option linter.unusedVariables false

/-- The word of an array of bytes, from a byte on. -/
theorem slice_word (g o r : Nat) (hr : r < 8) (w : World) : (Instr.sliceAt 71 (.pointer (some ⟨g, o, none⟩)) (some (.int .i64 (r : Int))) none none).run Try.prog w = .ok (.slice (some ⟨g, o + r, none⟩) (8 - r) (8 - r)) w := by
  obtain ⟨it, h1, h2⟩ := info_of (t := 5) (n := 1) (by kernel_rfl)
  have hu : Try.prog.underlying 71 = some (.array 8 5) := by kernel_rfl
  have h3 : (0 : Int) ≤ (r : Int) ∧ (r : Int) ≤ (8 : Nat) := by omega
  have h4 : ¬ (8 = r) := by omega
  simp only [Instr.sliceAt, Sem.run_bind, run_underlying hu, Result.andThen_ok, Instr.sureAddr, Sem.run_pure, Instr.sliceBounds, Instr.sliceBound, asIntOf, h3, and_self, if_true, sizeOf, typeInfo, h1, h2, h4, if_false, Int.toNat_natCast, Nat.mul_one, Addr.add_mid, run_program]
/-- A slice of bytes, from a byte on. -/
theorem slice_bytes (g o d n cap : Nat) (hd : d < n) (hn : n ≤ cap) (w : World) : (Instr.sliceAt 33 (.slice (some ⟨g, o, none⟩) n cap) (some (.int .i64 (d : Int))) none none).run Try.prog w = .ok (.slice (some ⟨g, o + d, none⟩) (n - d) (cap - d)) w := by
  obtain ⟨it, h1, h2⟩ := info_of (t := 5) (n := 1) (by kernel_rfl)
  have hu : Try.prog.underlying 33 = some (.slice 5) := by kernel_rfl
  have h3 : (0 : Int) ≤ (d : Int) ∧ (d : Int) ≤ (n : Int) := by omega
  have h4 : ¬ (cap = d) := by omega
  simp only [Instr.sliceAt, Instr.slice, Sem.run_bind, run_underlying hu, Result.andThen_ok, Sem.run_pure, Instr.sliceBounds, Instr.sliceBound, asIntOf, h3, and_self, if_true, sizeOf, typeInfo, h1, h2, h4, if_false, Int.toNat_natCast, Nat.mul_one, Addr.add_mid, run_program, Option.map_some]
/-- A word of a content. -/
theorem index_word (g o i : Nat) (hi : i < 8) (w : World) : (Instr.indexAt 73 (.pointer (some ⟨g, o, none⟩)) (.int .i64 (i : Int))).run Try.prog w = .ok (.pointer (some ⟨g, o + i * 8, none⟩)) w := by
  obtain ⟨it, h1, h2⟩ := info_of (t := 71) (n := 8) (by kernel_rfl)
  have hu : Try.prog.underlying 73 = some (.array 8 71) := by kernel_rfl
  have h3 : (0 : Int) ≤ (i : Int) ∧ (i : Int) < (8 : Nat) := by omega
  simp only [Instr.indexAt, Sem.run_bind, run_underlying hu, Result.andThen_ok, Instr.sureAddr, Sem.run_pure, asIntOf, h3, and_self, if_true, sizeOf, typeInfo, h1, h2, Int.toNat_natCast, Addr.add_mid, run_program]
/-- 'copy' at the operation. -/
theorem wp_copy {P : Program} {o : Oper} {a : Act} {w : World} {K : Act → World → Prop} {Q : Exit → Act → World → Prop} (d s : Operand) (dT sT : TypeId)
    (ho : o.op = .call { callee := .builtin .copy, args := #[d, s], argTypes := #[dT, sT] }) (elem : TypeId) (hu : P.underlying dT = some (.slice elem)) (hsz : (P.info? elem).map (·.size) = some 1)
    (g off dLen dCap : Nat) (ad : Addr) (sLen sCap : Nat) (hd : a.eval d = .slice (some ⟨g, off, none⟩) dLen dCap) (hs : a.eval s = .slice (some ad) sLen sCap)
    (cur : List Value) (t : TypeId) (hg : w.heap[g]? = some (.cells cur.toArray t (0, 0))) (cs : List Value) (hn : cs.length = Nat.min sLen dLen)
    (hsrc : ∀ j v, cs[j]? = some v → w.cell? (ad.add j) = some v) (hfit : off + cs.length ≤ cur.length) (h1 : ∀ v ∈ cs, v.oneCell' = true)
    (h : K (a.put o.dst (goInt cs.length)) (w.setRow g (splice cur off cs).toArray)) : o.wp P a w K Q := by
  have hrun := run_copy_row (P := P) w dT sT o.type elem g off dLen dCap ad sLen sCap cur.toArray t cs hu hsz hg hn hsrc (by simpa using hfit) h1
  unfold Oper.wp
  simp [execOp, ho, resolve, invoke, builtin, hd, hs, hrun, Result.andThen]
  simpa [splice, Oper.upon] using h
theorem wpAnyH_op {P : Program} {ops : Array Oper} {Q : Exit → Act → World → Prop} {md : Region.Mode} {S : World → Prop} {i : Nat} {o : Oper} {fuel : Nat} {listed : Array Bool} {a : Act} {w : World} (hr : Region.ready md ops listed = [i]) (ho : ops[i]? = some o) (hw : Region.wanted o (yielded ops a.tmps) = true) (hr' : Region.ready md ops (listed.setIfInBounds i true) = [])
    (h : o.wp P a w (fun a' w' => S w' ∧ Q .normal a' w') Q) : wpAnyH P md ops Q S (fuel + 1) listed a w := by
  refine wpAnyH_ready (rs := [i]) hr (by simp) (AllReadyH.cons ho (fun K hK => ?_) AllReadyH.nil)
  rw [if_pos hw]
  exact Oper.wp_mono (fun a' w' h' => hK a' w' h'.1 (fun _ => wpAnyH_done hr' h'.2 fuel)) h
theorem heap_setRow (w : World) (g : Nat) (c c' : Array Value) (t : TypeId) (f : Nat × Nat) (h : w.heap[g]? = some (.cells c t f)) : (w.setRow g c').heap[g]? = some (.cells c' t f) := by
  simp [World.setRow, Array.getElem?_modify, h]
theorem Gr.setRow {X : Nat → Prop} (w : World) (g : Nat) (c : Array Value) (hx : X g) : Gr X w (w.setRow g c) :=
  ⟨rfl, rfl, rfl, by simp [World.setRow], fun k hk hn => setRow_other w g k c (fun e => hn (e ▸ hx))⟩

/-- What a word that is written makes of a device. -/
def wordDo (bs : List Nat) (at_ : Nat) (σ : St) (no : Nat) : St :=
  { σ.put (no / 8) (splice (σ.line (no / 8)) (max at_ (no * 8) % 64) ((bs.drop (max at_ (no * 8) - at_)).take (8 - max at_ (no * 8) % 8))) with ops := σ.ops + 1 }
theorem splice_mem {l c : List Nat} {o x : Nat} (h : x ∈ splice l o c) : x ∈ l ∨ x ∈ c := by
  unfold splice at h
  rcases List.mem_append.1 h with h | h
  · exact .inl (List.mem_of_mem_take h)
  · rcases List.mem_append.1 h with h | h
    · exact .inr h
    · exact .inl (List.mem_of_mem_drop h)
theorem line_mem {σ : St} {i x : Nat} (h : x ∈ σ.line i) : x ∈ σ.bytes := List.mem_of_mem_drop (List.mem_of_mem_take h)
/-- Such a device stays one. -/
theorem put_ok {σ : St} (h : σ.Ok) {i : Nat} {c : List Nat} (hi : i < σ.n) (hc : c.length = 64) (hb : ∀ x ∈ c, x < 256) (hops : σ.ops < 1400000000000) : St.Ok { σ.put i c with ops := σ.ops + 1 } where
  pos := h.pos
  max := h.max
  len := by
    show (splice σ.bytes (64 * i) c).length = 64 * σ.n
    rw [length_splice _ _ _ (by rw [h.len, hc]; omega), h.len]
  byte := fun x hx => (splice_mem hx).elim (h.byte x) (hb x)
  out := fun j hj => by
    show (σ.put i c).past j = []
    have hj' : σ.n ≤ j := hj
    rw [St.put_past, if_neg (by omega)]
    exact h.out j hj
  clen := fun j d hd => by
    have hd' : d ∈ (σ.put i c).past j := hd
    rw [St.put_past] at hd'
    split at hd'
    · rcases List.mem_append.1 hd' with h1 | h1
      · exact h.clen _ _ h1
      · obtain rfl := List.mem_singleton.1 h1
        exact line_len h hi
    · exact h.clen _ _ hd'
  cbyte := fun j d hd x hx => by
    have hd' : d ∈ (σ.put i c).past j := hd
    rw [St.put_past] at hd'
    split at hd'
    · rcases List.mem_append.1 hd' with h1 | h1
      · exact h.cbyte _ _ h1 x hx
      · obtain rfl := List.mem_singleton.1 h1
        exact h.byte x (line_mem hx)
    · exact h.cbyte _ _ hd' x hx
  few := fun j => by
    show ((σ.put i c).past j).length ≤ σ.ops + 1
    rw [St.put_past]
    split
    · have := h.few i
      simp
      omega
    · have := h.few j
      omega
  flp := fun j k hk => by
    obtain ⟨h1, h2⟩ := h.flp j k hk
    show k ≤ ((σ.put i c).past j).length ∧ (σ.put i c).past j ≠ []
    rw [St.put_past]
    split
    · rename_i e
      subst e
      exact ⟨by simp; omega, by simp⟩
    · exact ⟨h1, h2⟩
  opsm := by
    show σ.ops + 1 ≤ _
    omega
theorem part_any (no at_ : Nat) (w : World) (h : no ≤ 1000000) (ha : at_ ≤ 10000000) : Calls Try.prog 48 #[.int .i64 (no : Int), .int .i64 (at_ : Int)] w fun e w' => e = .returned (.tuple #[.int .i64 ((no / 8 : Nat) : Int), .int .i64 ((no % 8 : Nat) : Int), .int .i64 ((max at_ (no * 8) : Nat) : Int)]) ∧ w' = w := by
  have h1 : (no : Int) ≤ 1000000 := by omega
  have h2 : (at_ : Int) ≤ 10000000 := by omega
  have h3 : (0 : Int) ≤ no := by omega
  go_enter Try.func48, Try.ntmps48
  go_wp2
  all_goals (
    go_ret3
    refine ⟨?_, rfl⟩)
  · have e : ((max at_ (no * 8) : Nat) : Int) = (no : Int) * 8 := by omega
    rw [e]; rfl
  · have e : ((max at_ (no * 8) : Nat) : Int) = (at_ : Int) := by omega
    rw [e]; rfl
end Go.Proofs.Ytgfgihpkbbjkfaa
