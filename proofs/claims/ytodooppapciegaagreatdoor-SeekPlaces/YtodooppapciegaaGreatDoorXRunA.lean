/- Package seek: a run of a pattern over a text: how it lies, and what it does, in short. -/
import Derived.Test.YtodooppapciegaaGreatDoorXPut
import Derived.Test.YtodooppapciegaaGreatDoorXCh
namespace Go.Proofs.YtodooppapciegaaGreatDoor
open Go.RowKit Go.Shelf
set_option linter.unusedVariables false
set_option linter.unusedSimpArgs false

/-- An item: its kind (a line begins, ends; once, maybe, many), and the characters that are of its atom's kind. -/
abbrev Kd := Nat × (Ch → Bool)
/-- A run on its way. -/
structure Rs where
  now : List (Nat × Nat)
  next : List (Nat × Nat)
  seen : List Nat
  round : Nat
  loc : Nat
  be : Bool
  en : Bool
  bf : Nat
  bt : Nat
  fo : Bool
/-- Is a match that begins at a place none that counts? -/
def worseV (g : Bool) (σ : Rs) (p : Nat) : Bool := σ.fo && (if g then decide (p < σ.bf) else decide (σ.bf < p))
/-- A match is brought to an item, and to all behind it that are reached without a character. -/
def comeF (its : List Kd) (p : Nat) : Nat → Nat → Rs → Rs
  | 0, _, σ => σ
  | f + 1, n, σ =>
    if σ.seen[n]? = some σ.round then σ
    else match its[n]? with
      | none => { σ with seen := σ.seen.set n σ.round, bf := p, bt := σ.loc, fo := true }
      | some x =>
        if x.1 = 0 then (if σ.be then comeF its p f (n + 1) { σ with seen := σ.seen.set n σ.round } else { σ with seen := σ.seen.set n σ.round })
        else if x.1 = 1 then (if σ.en then comeF its p f (n + 1) { σ with seen := σ.seen.set n σ.round } else { σ with seen := σ.seen.set n σ.round })
        else if x.1 = 2 then { σ with seen := σ.seen.set n σ.round, next := σ.next ++ [(n, p)] }
        else comeF its p f (n + 1) { σ with seen := σ.seen.set n σ.round, next := σ.next ++ [(n, p)] }
def come (its : List Kd) (n p : Nat) (σ : Rs) : Rs := comeF its p (its.length + 1 - n) n σ
/-- What holds of a run at all times. -/
structure Rs.Ok (its : List Kd) (m : Nat) (σ : Rs) : Prop where
  thn : ∀ t ∈ σ.now, (∃ x, its[t.1]? = some x ∧ 2 ≤ x.1) ∧ t.2 ≤ m
  thx : ∀ t ∈ σ.next, (∃ x, its[t.1]? = some x ∧ 2 ≤ x.1) ∧ t.2 ≤ m
  len : σ.seen.length = its.length + 1
  cnt : σ.next.length ≤ σ.seen.count σ.round
  loc : σ.loc ≤ m
  bf : σ.bf ≤ m
  bt : σ.bt ≤ m
theorem count_set_new : ∀ (l : List Nat) (n r : Nat), n < l.length → l[n]? ≠ some r → (l.set n r).count r = l.count r + 1
  | [], n, r, h, _ => absurd h (Nat.not_lt_zero _)
  | a :: l, 0, r, _, h => by
    have : a ≠ r := fun e => h (by simp [e])
    simp [List.count_cons, this]
  | a :: l, n + 1, r, h, k => by
    have := count_set_new l n r (by simpa using h) (by simpa using k)
    simp only [List.set_cons_succ, List.count_cons, this]
    omega
theorem Rs.Ok.mark {its : List Kd} {m : Nat} {σ : Rs} (h : σ.Ok its m) {n : Nat} (hn : n ≤ its.length) (hs : σ.seen[n]? ≠ some σ.round) : Rs.Ok its m { σ with seen := σ.seen.set n σ.round } :=
  ⟨h.thn, h.thx, by simp [h.len], by have := count_set_new σ.seen n σ.round (by rw [h.len]; omega) hs; have := h.cnt; simp only; omega, h.loc, h.bf, h.bt⟩
theorem Rs.Ok.push {its : List Kd} {m : Nat} {σ : Rs} (h : σ.Ok its m) {n p : Nat} (hn : n ≤ its.length) (hs : σ.seen[n]? ≠ some σ.round) {x : Kd} (hx : its[n]? = some x) (h2 : 2 ≤ x.1) (hp : p ≤ m) : Rs.Ok its m { σ with seen := σ.seen.set n σ.round, next := σ.next ++ [(n, p)] } :=
  ⟨h.thn, fun t ht => by
    rcases List.mem_append.1 ht with h1 | h1
    · exact h.thx t h1
    · rw [List.mem_singleton.1 h1]; exact ⟨⟨x, hx, h2⟩, hp⟩, by simp [h.len], by have := count_set_new σ.seen n σ.round (by rw [h.len]; omega) hs; have := h.cnt; simp only [List.length_append, List.length_singleton]; omega, h.loc, h.bf, h.bt⟩
theorem Rs.Ok.best {its : List Kd} {m : Nat} {σ : Rs} (h : σ.Ok its m) {n p : Nat} (hn : n ≤ its.length) (hs : σ.seen[n]? ≠ some σ.round) (hp : p ≤ m) : Rs.Ok its m { σ with seen := σ.seen.set n σ.round, bf := p, bt := σ.loc, fo := true } :=
  ⟨h.thn, h.thx, by simp [h.len], by have := count_set_new σ.seen n σ.round (by rw [h.len]; omega) hs; have := h.cnt; simp only; omega, h.loc, hp, h.loc⟩
theorem comeF_ok {its : List Kd} {m p : Nat} (hp : p ≤ m) : ∀ (f n : Nat) (σ : Rs), n ≤ its.length → σ.Ok its m → (comeF its p f n σ).Ok its m
  | 0, n, σ, _, h => h
  | f + 1, n, σ, hn, h => by
    unfold comeF
    by_cases hs : σ.seen[n]? = some σ.round
    · rw [if_pos hs]; exact h
    rw [if_neg hs]
    cases hx : its[n]? with
    | none => exact h.best hn hs hp
    | some x =>
      have hn2 : n + 1 ≤ its.length := (List.getElem?_eq_some_iff.1 hx).1
      simp only
      split
      · split
        · exact comeF_ok hp f (n + 1) _ hn2 (h.mark hn hs)
        · exact h.mark hn hs
      · split
        · split
          · exact comeF_ok hp f (n + 1) _ hn2 (h.mark hn hs)
          · exact h.mark hn hs
        · split
          · exact h.push hn hs hx (by omega) hp
          · exact comeF_ok hp f (n + 1) _ hn2 (h.push hn hs hx (by omega) hp)
/-- What come leaves. -/
theorem comeF_keeps {its : List Kd} {p : Nat} : ∀ (f n : Nat) (σ : Rs), (comeF its p f n σ).now = σ.now ∧ (comeF its p f n σ).round = σ.round ∧ (comeF its p f n σ).loc = σ.loc ∧ (comeF its p f n σ).be = σ.be ∧ (comeF its p f n σ).en = σ.en
  | 0, n, σ => ⟨rfl, rfl, rfl, rfl, rfl⟩
  | f + 1, n, σ => by
    unfold comeF
    split
    · exact ⟨rfl, rfl, rfl, rfl, rfl⟩
    · split
      · exact ⟨rfl, rfl, rfl, rfl, rfl⟩
      · split
        · split
          · exact comeF_keeps f (n + 1) { σ with seen := σ.seen.set n σ.round }
          · exact ⟨rfl, rfl, rfl, rfl, rfl⟩
        · split
          · split
            · exact comeF_keeps f (n + 1) { σ with seen := σ.seen.set n σ.round }
            · exact ⟨rfl, rfl, rfl, rfl, rfl⟩
          · split
            · exact ⟨rfl, rfl, rfl, rfl, rfl⟩
            · exact comeF_keeps f (n + 1) { σ with seen := σ.seen.set n σ.round, next := σ.next ++ [(n, p)] }

/-- The items of a pattern lie in a row; its block is among those that are kept. -/
def ItemsV (D : Nat → Prop) (W : World) (v : Value) (its : List Kd) : Prop :=
  (∀ k, D k → k < W.heap.size) ∧ ((v = .slice none 0 0 ∧ its = []) ∨ ∃ g cap, v = .slice (some ⟨g, 0, none⟩) its.length cap ∧ D g ∧
    ∀ (i : Nat) (x : Kd), its[i]? = some x → ∃ u, W.cell? ⟨g, i * 2, none⟩ = some (.int .i64 (x.1 : Int)) ∧ W.cell? ⟨g, i * 2 + 1, none⟩ = some u ∧ (2 ≤ x.1 → PartV D W u x.2) ∧ (x.1 < 2 → u = .nilFunc))
theorem ItemsV.keep {D : Nat → Prop} {W W' : World} {v : Value} {its : List Kd} (h : ItemsV D W v its) (hb : KeepD D W W') : ItemsV D W' v its := by
  refine ⟨fun k hk => Nat.lt_of_lt_of_le (h.1 k hk) hb.1, ?_⟩
  rcases h.2 with h | ⟨g, cap, hv, hg, hc⟩
  · exact .inl h
  · refine .inr ⟨g, cap, hv, hg, fun i x hx => ?_⟩
    obtain ⟨u, h1, h2, h3, h4⟩ := hc i x hx
    exact ⟨u, (World.cell?_of_block (hb.2 g hg)).trans h1, (World.cell?_of_block (hb.2 g hg)).trans h2, fun hk => (h3 hk).keep hb, h4⟩
theorem ItemsV.shape {D : Nat → Prop} {W : World} {v : Value} {its : List Kd} (h : ItemsV D W v its) : ∃ a cap, v = .slice a its.length cap := by
  rcases h.2 with ⟨h1, h2⟩ | ⟨g, cap, hv, _⟩
  · subst h2; exact ⟨none, 0, h1⟩
  · exact ⟨_, cap, hv⟩
theorem KeepD.of_base {D : Nat → Prop} {B : Nat} {A C : World} (h : Below B A C) (hs : A.heap.size ≤ C.heap.size) (hd : ∀ k, D k → k < B) : KeepD D A C := ⟨hs, fun k hk => h.block k (hd k hk)⟩
/-- What a run changes: blocks from a base on, of the types that a run is made of. -/
def Kr (B : Nat) (w w' : World) : Prop := Below B w w' ∧ ∀ (k : Nat) (cs : Array Value) (t : TypeId) (fr : Nat × Nat), w.heap[k]? = some (.cells cs t fr) → t ≠ 66 → t ≠ 3 → t ≠ 123 → w'.heap[k]? = w.heap[k]?
theorem Kr.refl (B : Nat) (w : World) : Kr B w w := ⟨Below.refl _ _, fun _ _ _ _ _ _ _ _ => rfl⟩
theorem Kr.trans {B : Nat} {a b c : World} (h : Kr B a b) (k : Kr B b c) : Kr B a c :=
  ⟨h.1.trans k.1, fun j cs t fr hj h1 h2 h3 => (k.2 j cs t fr ((h.2 j cs t fr hj h1 h2 h3).trans hj) h1 h2 h3).trans (h.2 j cs t fr hj h1 h2 h3)⟩
theorem Kr.of_below {B : Nat} {a b : World} (h : Below a.heap.size a b) (hB : B ≤ a.heap.size) : Kr B a b :=
  ⟨h.mono hB, fun j cs t fr hj _ _ _ => h.block j (Array.getElem?_eq_some_iff.1 hj).1⟩
theorem Kr.drewN (B : Nat) (w : World) (n : Nat) : Kr B w (w.drewN n) := ⟨⟨rfl, rfl, rfl, Nat.le_refl _, fun _ _ => rfl⟩, fun _ _ _ _ _ _ _ _ => rfl⟩
theorem Kr.alloc {B : Nat} {a b : World} (h : Kr B a b) (hB : B ≤ b.heap.size) (o : Obj) : Kr B a (b.alloc o) := h.trans (.of_below ((Below.refl _ _).alloc (Nat.le_refl _) o) hB)
theorem Kr.set {B : Nat} {a b : World} (h : Kr B a b) {k o : Nat} (hB : B ≤ k) {cs : Array Value} {t : TypeId} {fr : Nat × Nat} (hk : b.heap[k]? = some (.cells cs t fr)) (ht : t = 66 ∨ t = 3 ∨ t = 123) (v : Value) : Kr B a (b.setCell ⟨k, o, none⟩ v) := by
  refine h.trans ⟨(Below.refl _ _).setCell (p := ⟨k, o, none⟩) hB v, fun j cs' t' fr' hj h1 h2 h3 => heap_setCell_other b ⟨k, o, none⟩ j v fun e => ?_⟩
  have e2 : j = k := e
  rw [e2, hk] at hj
  simp at hj
  rcases ht with ht | ht | ht <;> simp_all
theorem Kr.grown {B : Nat} {a b c : World} {v : Value} {n : Nat} {xs : List Value} (h : Kr B a b) (ho : b.ownsRow B 123 2 v n xs) (hg : b.grownBy c v.ownBlock) (hB : B ≤ b.heap.size) : Kr B a c := by
  refine h.trans ⟨(Below.refl _ _).grown hg hB (fun k e => ?_), fun j cs t fr hj h1 h2 h3 => hg.block j (Array.getElem?_eq_some_iff.1 hj).1 fun e => ?_⟩
  · rcases ho.2 with ⟨rfl, _⟩ | ⟨g, cap, cur, rfl, hb, hg, _⟩
    · simp [Value.ownBlock] at e
    · have e3 : g = k := by simpa [Value.ownBlock] using e
      omega
  · rcases ho.2 with ⟨rfl, _⟩ | ⟨g, cap, cur, rfl, hb, hg, _⟩
    · simp [Value.ownBlock] at e
    · have e3 : j = g := by simpa [Value.ownBlock] using e
      rw [e3, hg] at hj
      simp at hj
      exact h3 hj.2.1.symm
/-- A row of matches on their way. -/
def thr (l : List (Nat × Nat)) : List Value := l.flatMap fun t => [Value.int .i64 (t.1 : Int), Value.int .i64 (t.2 : Int)]
/-- A run lies at block b: nothing of it lies below B, and what it does not change is kept. -/
structure RunC (B : Nat) (D : Nat → Prop) (s : ByteArray) (g : Bool) (its : List Kd) (w : World) (b : Nat) (σ : Rs) (iv nv xv : Value) (S : Nat) : Prop where
  box : w.heap[b]? = some (.cells #[iv, .string s, .bool g, nv, xv, .slice (some ⟨S, 0, none⟩) (its.length + 1) (its.length + 1), .int .i64 (σ.round : Int), .int .i64 (σ.loc : Int), .bool σ.be, .bool σ.en, .int .i64 (σ.bf : Int), .int .i64 (σ.bt : Int), .bool σ.fo] 66 (0, 0))
  items : ItemsV D w iv its
  now : w.ownsRow B 123 2 nv σ.now.length (thr σ.now)
  next : w.ownsRow B 123 2 xv σ.next.length (thr σ.next)
  apart : ∀ k, nv.ownBlock = some k → xv.ownBlock ≠ some k
  seen : w.heap[S]? = some (.cells (σ.seen.map fun (x : Nat) => Value.int .i64 (x : Int)).toArray 3 (0, 0))
  lb : B ≤ b
  lS : B ≤ S
  ltD : ∀ k, D k → k < B
/-- A run whose row of matches is this one. -/
def RunN (B : Nat) (D : Nat → Prop) (s : ByteArray) (g : Bool) (its : List Kd) (w : World) (b : Nat) (σ : Rs) (nv : Value) : Prop := ∃ iv xv S, RunC B D s g its w b σ iv nv xv S
def RunL (B : Nat) (D : Nat → Prop) (s : ByteArray) (g : Bool) (its : List Kd) (w : World) (b : Nat) (σ : Rs) : Prop := ∃ nv, RunN B D s g its w b σ nv
section
variable {B : Nat} {D : Nat → Prop} {s : ByteArray} {g : Bool} {its : List Kd} {w w' : World} {b : Nat} {σ : Rs} {iv nv xv : Value} {S : Nat}
theorem RunC.lt (h : RunC B D s g its w b σ iv nv xv S) : b < w.heap.size := (Array.getElem?_eq_some_iff.1 h.box).1
theorem RunC.ltS (h : RunC B D s g its w b σ iv nv xv S) : S < w.heap.size := (Array.getElem?_eq_some_iff.1 h.seen).1
theorem RunC.frz (h : RunC B D s g its w b σ iv nv xv S) (o : Nat) : w.frozen? ⟨b, o, none⟩ = false := by simp [World.frozen?, h.box]
theorem RunC.frzS (h : RunC B D s g its w b σ iv nv xv S) (o : Nat) : w.frozen? ⟨S, o, none⟩ = false := by simp [World.frozen?, h.seen]
theorem RunC.neS (h : RunC B D s g its w b σ iv nv xv S) : b ≠ S := fun e => by
  have h1 := h.box
  rw [e, h.seen] at h1
  simp at h1
theorem own_ne {W : World} {base : Nat} {e t : TypeId} {size n : Nat} {v : Value} {xs : List Value} {cs : Array Value} {fr : Nat × Nat} {k : Nat} (h : W.ownsRow base e size v n xs) (hk : W.heap[k]? = some (.cells cs t fr)) (ht : t ≠ e) : v.ownBlock ≠ some k := by
  rcases h.2 with ⟨rfl, _⟩ | ⟨g, cap, cur, rfl, _, hg, _⟩
  · simp [Value.ownBlock]
  · intro e2
    have e3 : g = k := by simpa [Value.ownBlock] using e2
    rw [e3, hk] at hg
    simp at hg
    exact ht hg.2.1
theorem own_low {W : World} {base : Nat} {e : TypeId} {size n : Nat} {v : Value} {xs : List Value} (h : W.ownsRow base e size v n xs) {k : Nat} (hk : v.ownBlock = some k) : base ≤ k ∧ k < W.heap.size := by
  rcases h.2 with ⟨rfl, _⟩ | ⟨g, cap, cur, rfl, hb, hg, _⟩
  · simp [Value.ownBlock] at hk
  · have e3 : g = k := by simpa [Value.ownBlock] using hk
    rw [← e3]
    exact ⟨hb, (Array.getElem?_eq_some_iff.1 hg).1⟩
theorem own_bel {B : Nat} {e : TypeId} {k : Nat} {v : Value} {n : Nat} {xs : List Value} {w w' : World} (h : w.ownsRow B e k v n xs) (hb : Below w.heap.size w w') : w'.ownsRow B e k v n xs :=
  h.kept (row := none) ⟨hb.os, hb.tape, hb.output, hb.size, fun j hj _ => hb.block j hj⟩ (by cases hv : v.ownBlock <;> simp)
theorem RunC.nb (h : RunC B D s g its w b σ iv nv xv S) : nv.ownBlock ≠ some b := own_ne h.now h.box (by decide)
theorem RunC.xb (h : RunC B D s g its w b σ iv nv xv S) : xv.ownBlock ≠ some b := own_ne h.next h.box (by decide)
theorem RunC.nS (h : RunC B D s g its w b σ iv nv xv S) : nv.ownBlock ≠ some S := own_ne h.now h.seen (by decide)
theorem RunC.xS (h : RunC B D s g its w b σ iv nv xv S) : xv.ownBlock ≠ some S := own_ne h.next h.seen (by decide)
/-- What is above all that was there does not touch a run. -/
theorem RunC.below (h : RunC B D s g its w b σ iv nv xv S) (hb : Below w.heap.size w w') : RunC B D s g its w' b σ iv nv xv S :=
  ⟨(hb.block b h.lt).trans h.box, h.items.keep (.of_below hb h.items.1), own_bel h.now hb, own_bel h.next hb, h.apart, (hb.block S h.ltS).trans h.seen, h.lb, h.lS, h.ltD⟩
theorem RunC.drew (h : RunC B D s g its w b σ iv nv xv S) : RunC B D s g its w.drew b σ iv nv xv S := h.below (Below.refl _ _).drew
/-- One of the run's cells is written. -/
theorem RunC.put (h : RunC B D s g its w b σ iv nv xv S) (o : Nat) (v : Value) (τ : Rs) (nv' xv' : Value)
    (hb : (#[iv, .string s, .bool g, nv, xv, .slice (some ⟨S, 0, none⟩) (its.length + 1) (its.length + 1), .int .i64 (σ.round : Int), .int .i64 (σ.loc : Int), .bool σ.be, .bool σ.en, .int .i64 (σ.bf : Int), .int .i64 (σ.bt : Int), .bool σ.fo] : Array Value).setIfInBounds o v = #[iv, .string s, .bool g, nv', xv', .slice (some ⟨S, 0, none⟩) (its.length + 1) (its.length + 1), .int .i64 (τ.round : Int), .int .i64 (τ.loc : Int), .bool τ.be, .bool τ.en, .int .i64 (τ.bf : Int), .int .i64 (τ.bt : Int), .bool τ.fo])
    (hn : w.ownsRow B 123 2 nv' τ.now.length (thr τ.now)) (hx : w.ownsRow B 123 2 xv' τ.next.length (thr τ.next)) (ha : ∀ k, nv'.ownBlock = some k → xv'.ownBlock ≠ some k) (hs : τ.seen = σ.seen) : RunC B D s g its (w.setCell ⟨b, o, none⟩ v) b τ iv nv' xv' S := by
  have k := heap_setCell_same w b o _ _ v h.box
  rw [hb] at k
  have hB : Below B w (w.setCell ⟨b, o, none⟩ v) := (Below.refl _ _).setCell (p := ⟨b, o, none⟩) h.lb v
  refine ⟨k, h.items.keep (.of_base hB (by simp [World.setCell]) h.ltD), hn.kept (grownX_set w b o v) (.inr (own_ne hn h.box (by decide))), hx.kept (grownX_set w b o v) (.inr (own_ne hx h.box (by decide))), ha, ?_, h.lb, h.lS, h.ltD⟩
  rw [hs, heap_setCell_other w ⟨b, o, none⟩ S v h.neS.symm]
  exact h.seen
/-- One of the marks is written. -/
theorem RunC.mark (h : RunC B D s g its w b σ iv nv xv S) (n r : Nat) : RunC B D s g its (w.setCell ⟨S, n, none⟩ (.int .i64 (r : Int))) b { σ with seen := σ.seen.set n r } iv nv xv S := by
  have k := heap_setCell_same w S n _ _ (.int .i64 (r : Int)) h.seen
  have hB : Below B w (w.setCell ⟨S, n, none⟩ (.int .i64 (r : Int))) := (Below.refl _ _).setCell (p := ⟨S, n, none⟩) h.lS _
  refine ⟨(heap_setCell_other w ⟨S, n, none⟩ b _ h.neS).trans h.box, h.items.keep (.of_base hB (by simp [World.setCell]) h.ltD), h.now.kept (grownX_set w S n _) (.inr h.nS), h.next.kept (grownX_set w S n _) (.inr h.xS), h.apart, ?_, h.lb, h.lS, h.ltD⟩
  rw [k]
  simp
end
end Go.Proofs.YtodooppapciegaaGreatDoor
