/- What a slice of bytes, or of ints, holds in memory, and that it holds it still where nothing old was written. -/
import Derived.Test.YtheefdplbmneeaaRows
import Derived.WalkKit
import Derived.OpenShut
import Derived.Laws.CopyOwn
import Derived.Deep.OwnRows
namespace Go.Proofs.Ytheefdplbmneeaa
open Go.RowKit

theorem hide {p : Prop} (h : p) : Hid p := h
theorem unhide {p : Prop} (h : Hid p) : p := h

theorem bseq {w a b : World} (h : Below w.heap.size w a) (k : Below a.heap.size a b) : Below w.heap.size w b := h.trans (k.mono h.size)

/-- Bytes that stand one behind the other in a block. -/
def Seg (w : World) (b off : Nat) (bs : List Nat) : Prop :=
  ∀ (i x : Nat), bs[i]? = some x → w.cell? ⟨b, off + i, none⟩ = some (.int .u8 (x : Int)) ∧ x < 256

/-- What the slice at 'a' holds, up to its length. -/
def Sl (w : World) (a : Option Addr) (bs : List Nat) : Prop :=
  bs = [] ∨ ∃ b off, a = some ⟨b, off, none⟩ ∧ b < w.heap.size ∧ Seg w b off bs

theorem Seg.below {B : Nat} {w w' : World} {b off : Nat} {bs : List Nat} (h : Seg w b off bs) (hb : Below B w w') (hl : b < B) : Seg w' b off bs :=
  fun i x hx => ⟨(hb.cell (p := ⟨b, off + i, none⟩) hl).trans (h i x hx).1, (h i x hx).2⟩

theorem Sl.below {w w' : World} {a : Option Addr} {bs : List Nat} (h : Sl w a bs) (hb : Below w.heap.size w w') : Sl w' a bs := by
  rcases h with h | ⟨b, off, ha, hl, hs⟩
  · exact .inl h
  · exact .inr ⟨b, off, ha, Nat.lt_of_lt_of_le hl hb.size, hs.below hb hl⟩

/-- What a slice of slices of bytes holds, up to its length. -/
def SlR (w : World) (a : Option Addr) (rs : List (List Nat)) : Prop :=
  rs = [] ∨ ∃ b off, a = some ⟨b, off, none⟩ ∧ b < w.heap.size ∧
    ∀ (i : Nat) (r : List Nat), rs[i]? = some r → ∃ ai cap, w.cell? ⟨b, off + i, none⟩ = some (.slice ai r.length cap) ∧ Sl w ai r ∧ r.length ≤ maxLen

theorem SlR.below {w w' : World} {a : Option Addr} {rs : List (List Nat)} (h : SlR w a rs) (hb : Below w.heap.size w w') : SlR w' a rs := by
  rcases h with h | ⟨b, off, ha, hl, hs⟩
  · exact .inl h
  · refine .inr ⟨b, off, ha, Nat.lt_of_lt_of_le hl hb.size, fun i r hr => ?_⟩
    obtain ⟨ai, cap, hc, hsl, hm⟩ := hs i r hr
    exact ⟨ai, cap, (hb.cell (p := ⟨b, off + i, none⟩) hl).trans hc, hsl.below hb, hm⟩

theorem Sl.lt {w : World} {a : Option Addr} {bs : List Nat} (h : Sl w a bs) : ∀ x ∈ bs, x < 256 := by
  intro x hx
  rcases h with rfl | ⟨b, off, _, _, hs⟩
  · simp at hx
  · obtain ⟨i, hi⟩ := List.getElem?_of_mem hx
    exact (hs i x hi).2

theorem SlR.lt {w : World} {a : Option Addr} {rs : List (List Nat)} (h : SlR w a rs) : ∀ r ∈ rs, ∀ x ∈ r, x < 256 := by
  intro r hr x hx
  rcases h with rfl | ⟨b, off, _, _, hs⟩
  · simp at hr
  · obtain ⟨i, hi⟩ := List.getElem?_of_mem hr
    obtain ⟨ai, cap, _, hsl, _⟩ := hs i r hi
    exact hsl.lt x hx

/-- A byte's cell. -/
def B8 (x : Nat) : Value := .int .u8 (x : Int)

/-- Block g holds just these bytes, none of them frozen. -/
def OwnB (w : World) (g : Nat) (bs : List Nat) : Prop := w.heap[g]? = some (.cells (bs.map B8).toArray 5 (0, 0))

theorem OwnB.lt {w : World} {g : Nat} {bs : List Nat} (h : OwnB w g bs) : g < w.heap.size := (Array.getElem?_eq_some_iff.1 h).1
theorem OwnB.frozen {w : World} {g : Nat} {bs : List Nat} (h : OwnB w g bs) (i : Nat) : w.frozen? ⟨g, i, none⟩ = false := by
  unfold OwnB at h; simp [World.frozen?, h]
theorem OwnB.cell {w : World} {g : Nat} {bs : List Nat} (h : OwnB w g bs) (i x : Nat) (hx : bs[i]? = some x) : w.cell? ⟨g, i, none⟩ = some (.int .u8 (x : Int)) := by
  unfold OwnB at h; simp [World.cell?, h, hx, B8]
theorem OwnB.of_block {w w' : World} {g : Nat} {bs : List Nat} (h : OwnB w g bs) (e : w'.heap[g]? = w.heap[g]?) : OwnB w' g bs := e.trans h
theorem OwnB.below {B : Nat} {w w' : World} {g : Nat} {bs : List Nat} (h : OwnB w g bs) (hb : Below B w w') (hg : g < B) : OwnB w' g bs := h.of_block (hb.block g hg)
theorem OwnB.set {w : World} {g : Nat} {bs : List Nat} (h : OwnB w g bs) (i x : Nat) : OwnB (w.setCell ⟨g, i, none⟩ (.int .u8 (x : Int))) g (bs.set i x) := by
  unfold OwnB at *
  simp only [World.setCell, Array.getElem?_modify, h]
  simp [List.map_set, B8]
theorem OwnB.sl {w : World} {g : Nat} {bs : List Nat} (h : OwnB w g bs) (hx : ∀ x ∈ bs, x < 256) : Sl w (some ⟨g, 0, none⟩) bs :=
  .inr ⟨g, 0, rfl, h.lt, fun i x hi => ⟨by rw [Nat.zero_add]; exact h.cell i x hi, hx x (List.mem_of_getElem? hi)⟩⟩
theorem OwnB.made (w : World) (n : Nat) : OwnB (w.alloc (.cells (madeCells #[.int .u8 0] n) 5)) w.heap.size (List.replicate n 0) := by
  unfold OwnB
  rw [heap_alloc_new]
  congr 2
  apply Array.ext
  · simp [size_madeCells]
  · intro i h1 h2
    simp [madeCells, Nat.mod_one, B8]

theorem Try.info5 : (Try.prog.info? 5).map (fun i => (i.zero, i.size, i.bytes)) = some (some (.int .u8 0), 1, 1) := by kernel_rfl

end Go.Proofs.Ytheefdplbmneeaa
