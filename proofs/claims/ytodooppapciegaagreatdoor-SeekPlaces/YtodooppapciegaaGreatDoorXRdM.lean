/- Package seek: the reader on its way: what it has put, what waits to be put; what a pattern reads as. -/
import Derived.Test.YtodooppapciegaaGreatDoorXReadW
namespace Go.Proofs.YtodooppapciegaaGreatDoor
open Go.RowKit Go.Shelf
set_option linter.unusedVariables false
set_option linter.unusedSimpArgs false

/-- A kind that leans on new blocks alone, none of them that of the items' row. -/
def AtP (n : Nat) (v : Value) (W : World) (u : Value) (P : Ch → Bool) : Prop := ∃ E : Nat → Prop, (∀ k, E k → n < k ∧ v.ownBlock ≠ some k) ∧ PartV E W u P
def kcs (its : List Kd) (us : List Value) : List Value := (its.zip us).flatMap fun t => [.int .i64 (t.1.1 : Int), t.2]
def nP : Ch → Bool := fun _ => false
/-- A reader on its way: its items; kinds that wait to be put. -/
structure Rdg (w0 : World) (b : Nat) (s : ByteArray) (f : Bool) (wr : World) (p : Nat) (v : Value) (its : List Kd) (pd : List (Value × (Ch → Bool))) : Prop where
  rx : Rx wr b s p f v
  lt : b < w0.heap.size
  gr : GrX (fun j => j = b) w0 wr
  sg : ∃ c0 c1, wr.heap[w0.heap.size]? = some (.cells #[.int .i32 c0, .bool c1] 71 (0, 0))
  row : ∃ us : List Value, us.length = its.length ∧ wr.ownsRow 0 101 2 v its.length (kcs its us) ∧ ∀ t ∈ its.zip us, (t.1.1 < 2 ∧ t.2 = .nilFunc) ∨ (2 ≤ t.1.1 ∧ AtP w0.heap.size v wr t.2 t.1.2)
  ob : ∀ g, v.ownBlock = some g → w0.heap.size < g
  pend : ∀ t ∈ pd, AtP w0.heap.size v wr t.1 t.2
theorem AtP.keep {n : Nat} {v : Value} {W W' : World} {u : Value} {P : Ch → Bool} {X : Nat → Prop} (h : AtP n v W u P) (hg : GrX X W W') (hx : ∀ k, n < k → v.ownBlock ≠ some k → ¬ X k) : AtP n v W' u P := by
  obtain ⟨E, h1, h2⟩ := h
  exact ⟨E, h1, h2.keep (hg.keepD fun k hk => ⟨h2.1 k hk, hx k (h1 k hk).1 (h1 k hk).2⟩)⟩
theorem AtP.fn {n : Nat} {v : Value} {W : World} {u : Value} {P : Ch → Bool} (h : AtP n v W u P) : ∃ f lb, u = .func (.func f) #[] lb := by
  obtain ⟨E, _, _, f, lb, hv, _⟩ := h
  exact ⟨f, lb, hv⟩
section
variable {w0 wr w' : World} {b p p' : Nat} {s : ByteArray} {f : Bool} {v : Value} {its : List Kd} {pd : List (Value × (Ch → Bool))}
theorem Rdg.big (h : Rdg w0 b s f wr p v its pd) : w0.heap.size < wr.heap.size := by
  obtain ⟨_, _, h1⟩ := h.sg
  exact (Array.getElem?_eq_some_iff.1 h1).1
theorem Rdg.obl (h : Rdg w0 b s f wr p v its pd) : ∀ g, v.ownBlock = some g → g < wr.heap.size := fun g hg => by
  obtain ⟨us, _, h2, _⟩ := h.row
  exact (own_low h2 hg).2
theorem Rdg.frame (h : Rdg w0 b s f wr p v its pd) (hg : GrX (fun j => j = b ∨ j = w0.heap.size) wr w') (hr : Rx w' b s p' f v)
    (hs : ∃ c0 c1, w'.heap[w0.heap.size]? = some (.cells #[.int .i32 c0, .bool c1] 71 (0, 0))) : Rdg w0 b s f w' p' v its pd := by
  have hlt := h.lt
  have hx : ∀ k, w0.heap.size < k → v.ownBlock ≠ some k → ¬ (k = b ∨ k = w0.heap.size) := fun k hk _ hn => by omega
  obtain ⟨us, h1, h2, h3⟩ := h.row
  refine ⟨hr, hlt, h.gr.new hg (fun j hj => hj.elim .inl (fun e => .inr (Nat.le_of_eq e.symm))), hs, ⟨us, h1, own_grx h2 hg (fun g hgb hn => by have := h.ob g hgb; omega), fun t ht => (h3 t ht).imp id (fun k => ⟨k.1, k.2.keep hg hx⟩)⟩, h.ob, fun t ht => (h.pend t ht).keep hg hx⟩
theorem Rdg.frameB (h : Rdg w0 b s f wr p v its pd) (hg : GrX (fun j => j = b) wr w') (hr : Rx w' b s p' f v) : Rdg w0 b s f w' p' v its pd := by
  obtain ⟨c0, c1, h1⟩ := h.sg
  exact h.frame (hg.sub fun j hj => .inl hj) hr ⟨c0, c1, (hg.2.2.2.2 _ h.big (fun e => by have := h.lt; omega)).trans h1⟩
theorem Rdg.more (h : Rdg w0 b s f wr p v its pd) {u : Value} {P : Ch → Bool} {n : Nat} (hn : wr.heap.size ≤ n) (hp : PartO (fun _ => False) n w' u P) (h' : Rdg w0 b s f w' p' v its pd) : Rdg w0 b s f w' p' v its ((u, P) :: pd) := by
  refine ⟨h'.rx, h'.lt, h'.gr, h'.sg, h'.row, h'.ob, fun t ht => ?_⟩
  rcases List.mem_cons.1 ht with rfl | ht
  · obtain ⟨E, h1, h2⟩ := hp
    refine ⟨E, fun k hk => ?_, h2⟩
    have h3 := (h1 k hk).resolve_left id
    have h4 := h.big
    exact ⟨by omega, fun e => by have := h.obl k e; omega⟩
  · exact h'.pend t ht
theorem Rdg.less (h : Rdg w0 b s f wr p v its pd) : Rdg w0 b s f wr p v its [] := ⟨h.rx, h.lt, h.gr, h.sg, h.row, h.ob, fun t ht => absurd ht (by simp)⟩
theorem Rdg.drewN (h : Rdg w0 b s f wr p v its pd) (n : Nat) : Rdg w0 b s f (wr.drewN n) p v its pd := h.frameB (GrX.of_below ⟨rfl, rfl, rfl, Nat.le_refl _, fun _ _ => rfl⟩) (h.rx.drewN n)
/-- The single character's variable is written. -/
theorem Rdg.store (h : Rdg w0 b s f wr p v its pd) (c0 : Int) (c1 : Bool) :
    Rdg w0 b s f ((wr.setCell ⟨w0.heap.size, 0, none⟩ (.int .i32 c0)).setCell ⟨w0.heap.size, 1, none⟩ (.bool c1)) p v its pd ∧ ((wr.setCell ⟨w0.heap.size, 0, none⟩ (.int .i32 c0)).setCell ⟨w0.heap.size, 1, none⟩ (.bool c1)).heap[w0.heap.size]? = some (.cells #[.int .i32 c0, .bool c1] 71 (0, 0)) := by
  obtain ⟨d0, d1, h1⟩ := h.sg
  have h2 : ((wr.setCell ⟨w0.heap.size, 0, none⟩ (.int .i32 c0)).setCell ⟨w0.heap.size, 1, none⟩ (.bool c1)).heap[w0.heap.size]? = some (.cells #[.int .i32 c0, .bool c1] 71 (0, 0)) := heap_setCell_same _ _ 1 _ _ _ (heap_setCell_same wr _ 0 _ _ _ h1)
  refine ⟨h.frame ?_ (wrt_rx h.rx (fun e => by have := h.lt; omega)) ⟨c0, c1, h2⟩, h2⟩
  exact (GrX.of_grown (grownX_set wr _ 0 _) (fun j hj => .inl (.inr (by cases hj; rfl)))).trans (GrX.of_grown (grownX_set _ _ 1 _) (fun j hj => .inl (.inr (by cases hj; rfl))))
theorem rdg_done (h : Rdg w0 b s f wr p v its pd) (hp : p ≤ s.size) :
    Calls Tryz.prog 24 #[.pointer (some ⟨b, 0, none⟩)] wr fun e w' => e = .returned (.bool (decide (p = s.size))) ∧ Rdg w0 b s f w' p v its pd :=
  (xdone_any b s p f v wr h.rx hp).mono fun e w' ⟨he, n, hn⟩ => ⟨he, by rw [hn]; exact h.drewN n⟩
theorem rdg_sees (h : Rdg w0 b s f wr p v its pd) (hp : p ≤ s.size) (hs : s.size ≤ 140737488355328) (m : Nat) :
    Calls Tryz.prog 27 #[.pointer (some ⟨b, 0, none⟩), .int .u8 (m : Int)] wr fun e w' => e = .returned (.bool (xAt s p m)) ∧ Rdg w0 b s f w' p v its pd :=
  (xsees_any b s p m f v wr h.rx hp hs).mono fun e w' ⟨he, n, hn⟩ => ⟨he, by rw [hn]; exact h.drewN n⟩
theorem rdg_takes (h : Rdg w0 b s f wr p v its pd) (hp : p ≤ s.size) (hs : s.size ≤ 140737488355328) (m : Nat) :
    Calls Tryz.prog 25 #[.pointer (some ⟨b, 0, none⟩), .int .u8 (m : Int)] wr fun e w' => e = .returned (.bool (xAt s p m)) ∧ Rdg w0 b s f w' (if xAt s p m = true then p + 1 else p) v its pd :=
  (xtakes_any b s p m f v wr h.rx hp hs).mono fun e w' ⟨he, hr, hg⟩ => ⟨he, h.frameB (GrX.of_grown hg (fun j hj => .inl (by cases hj; rfl))) hr⟩
theorem kcs_snoc {us : List Value} (h : us.length = its.length) (x : Kd) (u : Value) : kcs (its ++ [x]) (us ++ [u]) = kcs its us ++ [.int .i64 (x.1 : Int), u] := by
  unfold kcs
  rw [List.zip_append h.symm, List.flatMap_append]
  rfl
theorem rdg_put (h : Rdg w0 b s f wr p v its pd) (k : Nat) (u : Value) (P : Ch → Bool) (hu : (k < 2 ∧ u = .nilFunc) ∨ (2 ≤ k ∧ (u, P) ∈ pd)) (hn : its.length ≤ 1048576) :
    Calls Tryz.prog 26 #[.pointer (some ⟨b, 0, none⟩), .int .i64 (k : Int), u] wr fun e w' => e = .returned (.tuple #[]) ∧ ∃ v', Rdg w0 b s f w' p v' (its ++ [(k, P)]) pd := by
  obtain ⟨us, h1, h2, h3⟩ := h.row
  have hfn : PFn u := hu.elim (fun g => .inl g.2) (fun g => .inr (h.pend _ g.2).fn)
  have hvb : v.ownBlock ≠ some b := fun e => by have := h.ob b e; have := h.lt; omega
  refine (xput_any b s p f v u (k : Int) its.length (kcs its us) wr h.rx hfn h2 hvb hn).mono fun e w' ⟨he, v', hr, ho, hat, hg⟩ => ⟨he, v', ?_⟩
  have hlt := h.lt
  have hbig := h.big
  have hx : ∀ k, w0.heap.size < k → v.ownBlock ≠ some k → ¬ (k = b ∨ some k = v.ownBlock) := fun k hk hv hn => hn.elim (fun e => by omega) (fun e => hv e.symm)
  have up : ∀ (u : Value) (P : Ch → Bool), AtP w0.heap.size v wr u P → AtP w0.heap.size v' w' u P := fun u P ⟨E, g1, g2⟩ =>
    ⟨E, fun j hj => ⟨(g1 j hj).1, fun e => by
      rcases hat with q | ⟨g, q1, q2⟩
      · exact (g1 j hj).2 (q ▸ e)
      · have : g = j := Option.some.inj (q1.symm.trans e)
        have := g2.1 j hj
        omega⟩, g2.keep (hg.keepD fun j hj => ⟨g2.1 j hj, hx j (g1 j hj).1 (g1 j hj).2⟩)⟩
  obtain ⟨c0, c1, hsg⟩ := h.sg
  refine ⟨hr, hlt, ?_, ⟨c0, c1, (hg.2.2.2.2 _ hbig (fun e => e.elim (fun e => by omega) (fun e => by have := h.ob _ e.symm; omega))).trans hsg⟩, ⟨us ++ [u], by simp [h1], ?_, fun t ht => ?_⟩, fun g hg2 => ?_, fun t ht => up _ _ (h.pend t ht)⟩
  · refine h.gr.new hg (fun j hj => hj.elim .inl (fun e => .inr ?_))
    have := h.ob j e.symm
    omega
  · rw [kcs_snoc h1, List.length_append, List.length_singleton]
    exact ho
  · rw [List.zip_append h1.symm] at ht
    rcases List.mem_append.1 ht with g | g
    · exact (h3 t g).imp id (fun k => ⟨k.1, up _ _ k.2⟩)
    · obtain rfl : t = ((k, P), u) := by simpa using g
      exact hu.imp id (fun g => ⟨g.1, up _ _ (h.pend _ g.2)⟩)
  · rcases hat with q | ⟨g3, q1, q2⟩
    · exact h.ob g (q ▸ hg2)
    · have : g3 = g := Option.some.inj (q1.symm.trans hg2)
      omega
theorem rdg_one (h : Rdg w0 b s f wr p v its pd) (d : Ch) :
    Calls Tryz.prog 30 #[.pointer (some ⟨b, 0, none⟩), chV d] wr fun e w' => ∃ u, e = .returned u ∧ Rdg w0 b s f w' p v its ((u, oneP f d) :: pd) ∧ ∃ fu lb, u = .func (.func fu) #[] lb :=
  (xone_any b s p f v d wr h.rx).mono fun e w' ⟨u, he, hp, hb⟩ => ⟨u, he, h.more (Nat.le_refl _) hp (h.frameB (GrX.of_below hb) (h.rx.below hb)), by obtain ⟨_, _, _, fu, lb, hv, _⟩ := hp; exact ⟨fu, lb, hv⟩⟩
/-- What written tells: nothing that may stand there, a kind, a single character. -/
inductive Wr
  | bad
  | kind (P : Ch → Bool)
  | one (c : Ch)
/-- From a place on, written tells this, and the reader stands there then. -/
def WrC (s : ByteArray) (p : Nat) (o : Wr) (q : Nat) : Prop := p ≤ q ∧ q ≤ s.size ∧ (o ≠ .bad → p < q) ∧
  ∀ (b : Nat) (f : Bool) (v : Value) (w : World), Rx w b s p f v → Calls Tryz.prog 29 #[.pointer (some ⟨b, 0, none⟩)] w fun e w' => Rx w' b s q f v ∧ GrX (fun j => j = b) w w' ∧
    ∃ u c0 c1, (match o with
      | .bad => e = .returned (.tuple #[u, .agg #[.int .i32 c0, .bool c1], .bool false]) ∧ u = .nilFunc
      | .kind P => e = .returned (.tuple #[u, .agg #[.int .i32 c0, .bool c1], .bool true]) ∧ PartO (fun _ => False) w.heap.size w' u P
      | .one c => e = .returned (.tuple #[u, .agg #[.int .i32 c0, .bool c1], .bool true]) ∧ u = .nilFunc ∧ c = (c0, c1))
/-- Likewise set, from behind its bracket on. -/
def SetC (s : ByteArray) (f : Bool) (p : Nat) (o : Option (Ch → Bool)) (q : Nat) : Prop := (o ≠ none → p < q ∧ q ≤ s.size) ∧
  ∀ (b : Nat) (v : Value) (w : World), Rx w b s p f v → Calls Tryz.prog 31 #[.pointer (some ⟨b, 0, none⟩)] w fun e w' => Rx w' b s q f v ∧ GrX (fun j => j = b) w w' ∧
    (match o with
      | none => e = .returned (.tuple #[.nilFunc, .bool false])
      | some P => ∃ u, e = .returned (.tuple #[u, .bool true]) ∧ PartO (fun _ => False) w.heap.size w' u P)
theorem rdg_bad {q : Nat} (h : Rdg w0 b s f wr p v its pd) (hc : WrC s p .bad q) :
    Calls Tryz.prog 29 #[.pointer (some ⟨b, 0, none⟩)] wr fun e w' => ∃ c0 c1, e = .returned (.tuple #[.nilFunc, .agg #[.int .i32 c0, .bool c1], .bool false]) ∧ Rdg w0 b s f w' q v its pd :=
  (hc.2.2.2 b f v wr h.rx).mono fun e w' ⟨hr, hg, u, c0, c1, he, hu⟩ => ⟨c0, c1, by rw [he, hu], h.frameB hg hr⟩
theorem rdg_kind {q : Nat} {P : Ch → Bool} (h : Rdg w0 b s f wr p v its pd) (hc : WrC s p (.kind P) q) :
    Calls Tryz.prog 29 #[.pointer (some ⟨b, 0, none⟩)] wr fun e w' => ∃ fu lb c0 c1, e = .returned (.tuple #[.func (.func fu) #[] lb, .agg #[.int .i32 c0, .bool c1], .bool true]) ∧ Rdg w0 b s f w' q v its ((.func (.func fu) #[] lb, P) :: pd) :=
  (hc.2.2.2 b f v wr h.rx).mono fun e w' ⟨hr, hg, u, c0, c1, he, hu⟩ => by
    obtain ⟨fu, lb, rfl⟩ : ∃ fu lb, u = .func (.func fu) #[] lb := by obtain ⟨_, _, _, fu, lb, hv, _⟩ := hu; exact ⟨fu, lb, hv⟩
    exact ⟨fu, lb, c0, c1, he, h.more (Nat.le_refl _) hu (h.frameB hg hr)⟩
theorem rdg_single {q : Nat} {c : Ch} (h : Rdg w0 b s f wr p v its pd) (hc : WrC s p (.one c) q) :
    Calls Tryz.prog 29 #[.pointer (some ⟨b, 0, none⟩)] wr fun e w' => e = .returned (.tuple #[.nilFunc, .agg #[.int .i32 c.1, .bool c.2], .bool true]) ∧ Rdg w0 b s f w' q v its pd :=
  (hc.2.2.2 b f v wr h.rx).mono fun e w' ⟨hr, hg, u, c0, c1, he, hu, hcc⟩ => ⟨by rw [he, hu, hcc], h.frameB hg hr⟩
theorem rdg_set {q : Nat} {P : Ch → Bool} (h : Rdg w0 b s f wr p v its pd) (hc : SetC s f p (some P) q) :
    Calls Tryz.prog 31 #[.pointer (some ⟨b, 0, none⟩)] wr fun e w' => ∃ fu lb, e = .returned (.tuple #[.func (.func fu) #[] lb, .bool true]) ∧ Rdg w0 b s f w' q v its ((.func (.func fu) #[] lb, P) :: pd) :=
  (hc.2 b v wr h.rx).mono fun e w' ⟨hr, hg, u, he, hu⟩ => by
    obtain ⟨fu, lb, rfl⟩ : ∃ fu lb, u = .func (.func fu) #[] lb := by obtain ⟨_, _, _, fu, lb, hv, _⟩ := hu; exact ⟨fu, lb, hv⟩
    exact ⟨fu, lb, he, h.more (Nat.le_refl _) hu (h.frameB hg hr)⟩
theorem rdg_noset {q : Nat} (h : Rdg w0 b s f wr p v its pd) (hc : SetC s f p none q) :
    Calls Tryz.prog 31 #[.pointer (some ⟨b, 0, none⟩)] wr fun e w' => e = .returned (.tuple #[.nilFunc, .bool false]) ∧ Rdg w0 b s f w' q v its pd :=
  (hc.2 b v wr h.rx).mono fun e w' ⟨hr, hg, he⟩ => ⟨he, h.frameB hg hr⟩
theorem Rdg.dot (h : Rdg w0 b s f wr p v its pd) : Rdg w0 b s f wr p v its ((.func (.func 28) #[] #[], fun c => !endP c) :: pd) :=
  h.more (Nat.le_refl _) ⟨fun _ => False, fun k hk => hk.elim, withinV wr⟩ h
end
/-- How many: the items of a kind, and how far they are written. -/
def cntI (s : ByteArray) (p : Nat) (P : Ch → Bool) : List Kd := if xAt s p 42 = true then [(4, P)] else if xAt s p 43 = true then [(2, P), (4, P)] else if xAt s p 63 = true then [(3, P)] else [(2, P)]
def cntN (s : ByteArray) (p : Nat) : Nat := if xAt s p 42 = true then p + 1 else if xAt s p 43 = true then p + 1 else if xAt s p 63 = true then p + 1 else p
/-- None of the marks that an atom does not begin with. -/
structure Plain (s : ByteArray) (p : Nat) : Prop where
  lt : p < s.size
  x94 : xAt s p 94 = false
  x36 : xAt s p 36 = false
  x42 : xAt s p 42 = false
  x43 : xAt s p 43 = false
  x63 : xAt s p 63 = false
  x46 : xAt s p 46 = false
  x91 : xAt s p 91 = false
/-- What a pattern reads as from a place on: items, or none; and where the reader stands in the end. -/
inductive Rd (s : ByteArray) (f : Bool) : Nat → Option (List Kd) → Nat → Prop
  | fin : Rd s f s.size (some []) s.size
  | beg (p : Nat) (r : Option (List Kd)) (q : Nat) : xAt s p 94 = true → Rd s f (p + 1) r q → Rd s f p (r.map ((0, nP) :: ·)) q
  | stop (p : Nat) (r : Option (List Kd)) (q : Nat) : xAt s p 36 = true → Rd s f (p + 1) r q → Rd s f p (r.map ((1, nP) :: ·)) q
  | rep (p : Nat) : (xAt s p 42 = true ∨ xAt s p 43 = true ∨ xAt s p 63 = true) → Rd s f p none p
  | dot (p : Nat) (r : Option (List Kd)) (q : Nat) : xAt s p 46 = true → Rd s f (cntN s (p + 1)) r q → Rd s f p (r.map (cntI s (p + 1) (fun c => !endP c) ++ ·)) q
  | set (p p' : Nat) (P : Ch → Bool) (r : Option (List Kd)) (q : Nat) : xAt s p 91 = true → SetC s f (p + 1) (some P) p' → Rd s f (cntN s p') r q → Rd s f p (r.map (cntI s p' P ++ ·)) q
  | noset (p p' : Nat) : xAt s p 91 = true → SetC s f (p + 1) none p' → Rd s f p none p'
  | kind (p p' : Nat) (P : Ch → Bool) (r : Option (List Kd)) (q : Nat) : Plain s p → WrC s p (.kind P) p' → Rd s f (cntN s p') r q → Rd s f p (r.map (cntI s p' P ++ ·)) q
  | one (p p' : Nat) (c : Ch) (r : Option (List Kd)) (q : Nat) : Plain s p → WrC s p (.one c) p' → Rd s f (cntN s p') r q → Rd s f p (r.map (cntI s p' (oneP f c) ++ ·)) q
  | no (p p' : Nat) : Plain s p → WrC s p .bad p' → Rd s f p none p'
theorem xAt_lt {s : ByteArray} {p m : Nat} (h : xAt s p m = true) : p < s.size := by
  unfold xAt at h
  simp at h
  exact h.1
theorem xAt_other {s : ByteArray} {p m k : Nat} (h : xAt s p m = true) (hk : m ≠ k) : xAt s p k = false := by
  unfold xAt at h ⊢
  simp at h ⊢
  intro _
  omega
theorem cntN_le {s : ByteArray} {p : Nat} (h : p ≤ s.size) : p ≤ cntN s p ∧ cntN s p ≤ s.size := by
  unfold cntN
  split
  · rename_i g; have := xAt_lt g; omega
  · split
    · rename_i g; have := xAt_lt g; omega
    · split
      · rename_i g; have := xAt_lt g; omega
      · omega
theorem cntI_len (s : ByteArray) (p : Nat) (P : Ch → Bool) : (cntI s p P).length ≤ 2 := by
  unfold cntI
  split
  · simp
  · split
    · simp
    · split <;> simp
end Go.Proofs.YtodooppapciegaaGreatDoor
