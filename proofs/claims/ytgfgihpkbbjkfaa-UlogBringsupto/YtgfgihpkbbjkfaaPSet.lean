/- Package pmem: settle, mayKeep. -/
import Derived.Test.YtgfgihpkbbjkfaaPFnW
namespace Go.Proofs.Ytgfgihpkbbjkfaa
open Go.RowKit Go.Shelf
set_option linter.unusedVariables false

/-- The world behind settle. -/
def setW (w : World) (b : Nat) : World := ((((w.alloc (.map #[] 0)).setCell ⟨b, 2, none⟩ (.map (some w.heap.size))).alloc (.map #[] 0)).setCell ⟨b, 3, none⟩ (.map (some (w.heap.size + 1))))
theorem size_set (w : World) (a : Addr) (v : Value) : (w.setCell a v).heap.size = w.heap.size := by simp [World.setCell]
theorem setW_facts {w : World} {b : Nat} {c0 c1 c2 c3 c4 c5 c6 c7 : Value} {t : TypeId} (h : w.heap[b]? = some (.cells #[c0, c1, c2, c3, c4, c5, c6, c7] t (0, 0))) :
    (setW w b).heap[b]? = some (.cells #[c0, c1, .map (some w.heap.size), .map (some (w.heap.size + 1)), c4, c5, c6, c7] t (0, 0)) ∧ MapG ptrE DataW.held (setW w b) w.heap.size 0 (fun _ => none) ∧ MapG (plainElem Try.prog 3) numD (setW w b) (w.heap.size + 1) 0 (fun _ => none) ∧ Gr (fun k => k = b) w (setW w b) ∧ (setW w b).heap.size = w.heap.size + 2 := by
  have hb := lt_of_heap h
  have hA : Below w.heap.size w (w.alloc (.map #[] 0)) := (Below.refl _ w).alloc (Nat.le_refl _) _
  have h1 := (hA.block b hb).trans h
  have h2 := heap_set1 (w.alloc (.map #[] 0)) b 2 _ t (.map (some w.heap.size)) h1
  obtain ⟨X, hX⟩ : ∃ X, X = (w.alloc (.map #[] 0)).setCell ⟨b, 2, none⟩ (.map (some w.heap.size)) := ⟨_, rfl⟩
  have hs : X.heap.size = w.heap.size + 1 := by rw [hX, size_set]; simp
  have hgX : Gr (fun k => k = b) w X := by rw [hX]; exact (Gr.of_below hA : Gr (fun k => k = b) w _).trans (Gr.set _ b 2 _ (X := fun k => k = b) rfl) (fun i h => .inl h)
  have hmX : MapG ptrE DataW.held X w.heap.size 0 (fun _ => none) := (MapG.made ptrE DataW.held w).of_block (by rw [hX]; exact heap_set_ne _ b 2 _ _ (by omega))
  rw [← hX] at h2
  have hA2 : Below X.heap.size X (X.alloc (.map #[] 0)) := (Below.refl _ X).alloc (Nat.le_refl _) _
  have h3 := (hA2.block b (by omega)).trans h2
  have h4 := heap_set1 (X.alloc (.map #[] 0)) b 3 _ t (.map (some (w.heap.size + 1))) h3
  have e : setW w b = (X.alloc (.map #[] 0)).setCell ⟨b, 3, none⟩ (.map (some (w.heap.size + 1))) := by rw [hX]; rfl
  rw [e]
  refine ⟨h4, ?_, ?_, ?_, by rw [size_set]; simp [hs]⟩
  · exact (hmX.of_block (hA2.block _ (by omega))).of_block (heap_set_ne _ b 3 _ _ (by omega))
  · have := (MapG.made (plainElem Try.prog 3) numD X).of_block (w' := (X.alloc (.map #[] 0)).setCell ⟨b, 3, none⟩ (.map (some (w.heap.size + 1)))) (heap_set_ne _ b 3 _ _ (by omega))
    rw [hs] at this
    exact this
  · exact (hgX.trans (Gr.of_below hA2 : Gr (fun k => k = b) X _) (fun i h => .inl h)).trans (Gr.set _ b 3 _ (X := fun k => k = b) rfl) (fun i h => .inl h)
theorem psettle_any {w : World} {b : Nat} {c0 c1 c2 c3 c4 c5 c6 c7 : Value} (h : w.heap[b]? = some (.cells #[c0, c1, c2, c3, c4, c5, c6, c7] 69 (0, 0))) :
    Calls Try.prog 69 #[.pointer (some ⟨b, 0, none⟩)] w fun e w' => e = .returned (.tuple #[]) ∧ w' = setW w b := by
  have hb := lt_of_heap h
  have hA : Below w.heap.size w (w.alloc (.map #[] 0)) := (Below.refl _ w).alloc (Nat.le_refl _) _
  have h1 := (hA.block b hb).trans h
  have q2 : (w.alloc (.map #[] 0)).cell? ⟨b, 2, none⟩ = some c2 := cell8 h1 2
  have f2 := froz8 h1 2
  have h2 := heap_set1 (w.alloc (.map #[] 0)) b 2 _ _ (.map (some w.heap.size)) h1
  have h3 := (((Below.refl _ ((w.alloc (.map #[] 0)).setCell ⟨b, 2, none⟩ (.map (some w.heap.size)))).alloc (Nat.le_refl _) (.map #[] 0)).block b (by rw [size_set]; simp; omega)).trans h2
  have q3 : (((w.alloc (.map #[] 0)).setCell ⟨b, 2, none⟩ (.map (some w.heap.size))).alloc (.map #[] 0)).cell? ⟨b, 3, none⟩ = some c3 := cell8 h3 3
  have f3 := froz8 h3 3
  have m1 : (Instr.makeMap 66 none).run Try.prog w = .ok (.map (some w.heap.size)) (w.alloc (.map #[] 0)) := rfl
  have hs : ((w.alloc (.map #[] 0)).setCell ⟨b, 2, none⟩ (.map (some w.heap.size))).heap.size = w.heap.size + 1 := by rw [size_set]; simp
  have m2 : (Instr.makeMap 67 none).run Try.prog ((w.alloc (.map #[] 0)).setCell ⟨b, 2, none⟩ (.map (some w.heap.size))) = .ok (.map (some (w.heap.size + 1))) (((w.alloc (.map #[] 0)).setCell ⟨b, 2, none⟩ (.map (some w.heap.size))).alloc (.map #[] 0)) := by rw [← hs]; rfl
  clear h hb hA h1 h2 h3 hs
  go_enter Try.func69, Try.ntmps69
  go_wp2
  go_end0
  exact ⟨rfl, rfl⟩
/-- Each line has one content. -/
def St.settled (σ : St) : St := { σ with past := fun _ => [], fl := fun _ => none }
theorem dev_settle {w : World} {b : Nat} {L : Lay} {σ : St} (h : DevL w b L σ) : DevL (setW w b) b { L with ob := w.heap.size, fb := w.heap.size + 1, N := 0 } σ.settled := by
  obtain ⟨f1, f2, f3, f4, f5⟩ := setW_facts h.dev
  have kt : ∀ (k : Nat) (c : Array Value) (t : TypeId) (f : Nat × Nat), w.heap[k]? = some (.cells c t f) → t ≠ 69 → (setW w b).heap[k]? = w.heap[k]? := fun k c t f hk ht => f4.block (lt_of_heap hk) (ne_ty hk h.dev ht)
  refine ⟨f1, (kt _ _ _ _ h.seen (by decide)).trans h.seen, f2.congr (fun x => ?_), f3.congr (fun x => ?_), fun i hi => absurd rfl hi, fun i j hi => absurd rfl hi, fun i j g hi => absurd rfl hi, (by show w.heap.size ≠ w.heap.size + 1; omega), h.arms.keep (fun g hg' => ?_) (fun g hg' => ?_), fun k hk => ?_⟩
  · unfold oldF; rw [if_neg (fun h => h.2 rfl)]
  · unfold flF; split <;> rfl
  · obtain ⟨c, hc⟩ := h.av_row hg'
    exact kt _ _ _ _ hc (by decide)
  · obtain ⟨c, hc⟩ := h.kbt g hg'
    exact kt _ _ _ _ hc (by decide)
  · obtain ⟨c, hc⟩ := h.kbt k hk
    exact ⟨c, (kt _ _ _ _ hc (by decide)).trans hc⟩
theorem St.settled_ok {σ : St} (h : σ.Ok) : σ.settled.Ok := by
  refine ⟨h.pos, h.max, h.len, h.byte, fun _ _ => rfl, fun i c hc => ?_, fun i c hc => ?_, fun i => Nat.zero_le _, fun i k hk => ?_, h.opsm⟩
  · cases hc
  · cases hc
  · cases hk
/-- A row of numbers, in a block of ints. -/
def SlN (w : World) (a : Option Addr) (ks : List Nat) : Prop :=
  (∀ k ∈ ks, k < 9223372036854775808) ∧ ((a = none ∧ ks = []) ∨ ∃ g o c f, a = some ⟨g, o, none⟩ ∧ w.heap[g]? = some (.cells c 3 f) ∧ ∀ j k : Nat, ks[j]? = some k → w.cell? ⟨g, o + j, none⟩ = some (.int .i64 (k : Int)))
theorem SlN.at {w : World} {a : Option Addr} {ks : List Nat} (h : SlN w a ks) {j k : Nat} (hj : ks[j]? = some k) : ∃ g o, a = some ⟨g, o, none⟩ ∧ w.cell? ⟨g, o + j, none⟩ = some (.int .i64 (k : Int)) ∧ k < 9223372036854775808 := by
  rcases h.2 with ⟨_, h2⟩ | ⟨g, o, c, f, h1, h2, h3⟩
  · rw [h2] at hj; cases hj
  · exact ⟨g, o, h1, h3 j k hj, h.1 k (List.mem_of_getElem? hj)⟩
theorem SlN.keep {w w' : World} {a : Option Addr} {ks : List Nat} (h : SlN w a ks) (hk : ∀ (k : Nat) (c : Array Value) (f : Nat × Nat), w.heap[k]? = some (.cells c 3 f) → w'.heap[k]? = w.heap[k]?) : SlN w' a ks := by
  refine ⟨h.1, ?_⟩
  rcases h.2 with h1 | ⟨g, o, c, f, h1, h2, h3⟩
  · exact .inl h1
  · exact .inr ⟨g, o, c, f, h1, (hk _ _ _ h2).trans h2, fun j k hj => (World.cell?_of_block (hk _ _ _ h2)).trans (h3 j k hj)⟩
theorem index_int (g o i len cap : Nat) (hi : i < len) (w : World) : (Instr.indexAt 87 (.slice (some ⟨g, o, none⟩) len cap) (.int .i64 (i : Int))).run Try.prog w = .ok (.pointer (some ⟨g, o + i, none⟩)) w := by
  have h := index_at (t := 87) (e := 3) (sz := 1) Try.underlying87 (by kernel_rfl) g o i len cap hi w
  rwa [Nat.mul_one] at h
theorem pmay_any {w : World} {a : Option Addr} {ks : List Nat} (cap : Nat) (h : SlN w a ks) (hl : ks.length ≤ 17592186043904) : Calls Try.prog 38 #[.slice a ks.length cap] w fun e w' => e = .returned (.bool true) ∧ w' = w := by
  have H := hide h
  clear h
  generalize hm : ks.length = m at *
  have HM := hide hm
  clear hm
  go_enter Try.func38, Try.ntmps38
  go_wp2
  go_loopw [7] (fun iv wr => ∃ j : Nat, iv = .int .i64 (j : Int) ∧ j ≤ m ∧ wr = w) (fun iv _ => (m - (intOf iv).toNat))
  case atStart => exact ⟨0, rfl, Nat.zero_le _, rfl⟩
  case round =>
    obtain ⟨j, rfl, hj, rfl⟩ := hrel
    by_cases hlt : j < m
    · obtain ⟨k, hk⟩ : ∃ k, ks[j]? = some k := ⟨_, List.getElem?_eq_getElem (by rw [HM.out]; exact hlt)⟩
      obtain ⟨g, o, rfl, hc, hkb⟩ := H.out.at hk
      have l0 := index_int g o j m cap hlt wr
      have jI : (j : Int) < (m : Int) := by omega
      have kI : ¬ (k : Int) < 0 := by omega
      clear hk
      go_wp2
      go_roundw
      case rel => exact ⟨j + 1, int_congrP (by omega), by omega, trivial⟩
      case measure => simp [intOf]; omega
    · have jI : ¬ (j : Int) < (m : Int) := by omega
      go_wp2
      go_ret
      exact ⟨rfl, rfl⟩
end Go.Proofs.Ytgfgihpkbbjkfaa
