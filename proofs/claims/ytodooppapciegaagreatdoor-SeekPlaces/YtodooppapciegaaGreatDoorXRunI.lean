/- Package seek: a run begins: over. -/
import Derived.Test.YtodooppapciegaaGreatDoorXRunG
import Derived.Deep.OwnRows
import Derived.Laws.EntriesVeiled
namespace Go.Proofs.YtodooppapciegaaGreatDoor
open Go.RowKit Go.Shelf
set_option linter.unusedVariables false
set_option linter.unusedSimpArgs false

theorem made_rep (v : Value) (n : Nat) : madeCells #[v] n = (List.replicate n v).toArray := by
  apply Array.ext
  · simp [madeCells]
  · intro i h1 h2
    simp [madeCells, Nat.mod_one]
theorem Tryz.infoI64 : (Tryz.prog.info? 3).map (fun i => (i.zero, i.size, i.bytes)) = some (some (.int .i64 0), 1, 8) := by kernel_rfl
/-- A pattern that Compile has made. -/
def PatL (D : Nat → Prop) (its : List Kd) (txt : ByteArray) (w : World) (pb : Nat) : Prop := ∃ iv, w.heap[pb]? = some (.cells #[.string txt, iv, .bool true] 51 (0, 0)) ∧ ItemsV D w iv its
theorem PatL.keep {D : Nat → Prop} {its : List Kd} {txt : ByteArray} {w w' : World} {pb : Nat} (h : PatL D its txt w pb) (hb : KeepD D w w') (hp : w'.heap[pb]? = w.heap[pb]?) : PatL D its txt w' pb := by
  obtain ⟨iv, h1, h2⟩ := h
  exact ⟨iv, hp.trans h1, h2.keep hb⟩
theorem PatL.below {D : Nat → Prop} {its : List Kd} {txt : ByteArray} {w w' : World} {pb : Nat} (h : PatL D its txt w pb) (hb : Below w.heap.size w w') : PatL D its txt w' pb := by
  obtain ⟨iv, h1, h2⟩ := id h
  exact h.keep (.of_below hb h2.1) (hb.block pb (Array.getElem?_eq_some_iff.1 h1).1)
/-- A run that has not begun. -/
def run0 (n : Nat) : Rs := ⟨[], [], List.replicate (n + 1) 0, 0, 0, false, false, 0, 0, false⟩
set_option maxRecDepth 100000 in
set_option maxHeartbeats 2000000 in
theorem over_any (D : Nat → Prop) (its : List Kd) (txt s : ByteArray) (w : World) (pb : Nat) (h : PatL D its txt w pb) (hl : its.length ≤ 65536) :
    Calls Tryz.prog 20 #[.pointer (some ⟨pb, 0, none⟩), .string s] w fun e w' => ∃ b, e = .returned (.pointer (some ⟨b, 0, none⟩)) ∧ RunL w.heap.size D s false its w' b (run0 its.length) ∧ Below w.heap.size w w' := by
  obtain ⟨iv, h1, h2⟩ := h
  obtain ⟨ia, iq, rfl⟩ := h2.shape
  have c0 := cel2 h1 0 _ rfl
  have c1 := cel2 h1 1 _ rfl
  have sb : pb < w.heap.size := (Array.getElem?_eq_some_iff.1 h1).1
  have mk : ∀ W : World, (Instr.makeSlice 64 (.int .i64 ((its.length : Int) + 1)) (.int .i64 ((its.length : Int) + 1))).run Tryz.prog W = .ok (.slice (some ⟨W.heap.size, 0, none⟩) (its.length + 1) (its.length + 1)) (W.alloc (.cells (madeCells #[.int .i64 0] (its.length + 1)) 3)) := fun W => by
    have k := run_make_row' (P := Tryz.prog) 64 3 (.int .i64 0) 8 Tryz.underlying64 Tryz.infoI64 rfl .i64 .i64 (its.length + 1) (by omega) (by omega) W
    rwa [show ((its.length + 1 : Nat) : Int) = (its.length : Int) + 1 by omega] at k
  have H2 := hide h2
  clear h1 h2
  go_enter Tryz.func20, Tryz.ntmps20
  go_wp2_with (fail)
  go_region
  go_wp2_with (fail)
  go_ret
  have hb1 : Below w.heap.size w (w.alloc (.cells (madeCells #[.int .i64 0] (its.length + 1)) 3)) := (Below.refl _ w).alloc (Nat.le_refl _) _
  have hs1 : (w.alloc (.cells (madeCells #[.int .i64 0] (its.length + 1)) 3)).heap.size = w.heap.size + 1 := by simp
  have hx1 := heap_alloc_new w (.cells (madeCells #[.int .i64 0] (its.length + 1)) 3)
  generalize hX : w.alloc (.cells (madeCells #[.int .i64 0] (its.length + 1)) 3) = X at *
  have hb2 : ∀ o : Obj, Below X.heap.size X (X.alloc o) := fun o => (Below.refl _ X).alloc (Nat.le_refl _) _
  have hx2 : ∀ o : Obj, (X.alloc o).heap[w.heap.size + 1]? = some o := fun o => by rw [← hs1]; exact heap_alloc_new X o
  have hbw : ∀ o : Obj, Below w.heap.size w (X.alloc o) := fun o => hb1.trans ((hb2 o).mono hb1.size)
  refine ⟨w.heap.size + 1, rfl, ⟨.slice none 0 0, .slice ia its.length iq, .slice none 0 0, w.heap.size, hx2 _, H2.out.keep (.of_below (hbw _).drew H2.out.1), World.ownsRow_nil _ _ _ _, World.ownsRow_nil _ _ _ _, fun k hk => by simp [Value.ownBlock] at hk, ?_, by omega, Nat.le_refl _, H2.out.1⟩, (hbw _).drew⟩
  refine ((hb2 _).block w.heap.size (by rw [hs1]; omega)).trans (hx1.trans ?_)
  rw [made_rep]
  simp [run0]
theorem none_nil (w : World) : Calls Tryz.prog 16 #[.pointer none] w fun e w' => e = .returned (.bool true) ∧ w' = w := by
  go_enter Tryz.func16, Tryz.ntmps16
  go_wp2_with (fail)
  go_ret
  exact ⟨rfl, rfl⟩
theorem none_made (pb : Nat) (m : Bool) (w : World) (h : w.cell? ⟨pb, 2, none⟩ = some (.bool m)) : Calls Tryz.prog 16 #[.pointer (some ⟨pb, 0, none⟩)] w fun e w' => e = .returned (.bool (!m)) ∧ w' = w := by
  cases m <;> (
    go_enter Tryz.func16, Tryz.ntmps16
    go_wp2_with (fail)
    go_ret
    exact ⟨rfl, rfl⟩)
theorem PatL.made {D : Nat → Prop} {its : List Kd} {txt : ByteArray} {w : World} {pb : Nat} (h : PatL D its txt w pb) : w.cell? ⟨pb, 2, none⟩ = some (.bool true) := by
  obtain ⟨iv, h1, _⟩ := h
  exact cel2 h1 2 _ rfl
end Go.Proofs.YtodooppapciegaaGreatDoor
