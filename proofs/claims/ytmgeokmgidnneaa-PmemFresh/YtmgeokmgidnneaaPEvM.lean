/- Package pmem, pure: what holds of every content of a line. -/
import Derived.Test.YtmgeokmgidnneaaPWby
import Derived.Test.YtmgeokmgidnneaaPFl
import Derived.Test.YtmgeokmgidnneaaPFnW
import Derived.Test.YtmgeokmgidnneaaPNew
namespace Go.Proofs.Ytmgeokmgidnneaa
open Go.RowKit Go.Shelf
set_option linter.unusedVariables false

/-- All contents of a line are so. -/
def Every (σ : St) (i : Nat) (P : List Nat → Prop) : Prop := P (σ.line i) ∧ ∀ c ∈ σ.past i, P c
theorem Every.put {σ : St} {i j : Nat} {c : List Nat} {P : List Nat → Prop} (hl : σ.bytes.length = 64 * σ.n) (hi : i < σ.n) (hc : c.length = 64) (hj : j < σ.n) (h : Every σ j P) (hP : j = i → P c) : Every (σ.put i c) j P := by
  have hb : (σ.put i c).line j = if j = i then c else σ.line j := splice_line (c := c) hl hi hc j hj
  have hp : (σ.put i c).past j = if j = i then σ.past i ++ [σ.line i] else σ.past j := rfl
  by_cases e : j = i
  · subst e
    rw [if_pos rfl] at hb hp
    refine ⟨by rw [hb]; exact hP rfl, fun d hd => ?_⟩
    rw [hp] at hd
    rcases List.mem_append.1 hd with h1 | h1
    · exact h.2 d h1
    · simp at h1
      rw [h1]
      exact h.1
  · rw [if_neg e] at hb hp
    exact ⟨by rw [hb]; exact h.1, fun d hd => h.2 d (by rw [hp] at hd; exact hd)⟩
theorem Every.word {bs : List Nat} {at_ no : Nat} {σ : St} {j : Nat} {P : List Nat → Prop} (hok : σ.Ok) (hi : no / 8 < σ.n) (hj : j < σ.n) (h : Every σ j P)
    (hP : j = no / 8 → P (splice (σ.line (no / 8)) (max at_ (no * 8) % 64) ((bs.drop (max at_ (no * 8) - at_)).take (8 - max at_ (no * 8) % 8)))) : Every (wordDo bs at_ σ no) j P := by
  have hl : (splice (σ.line (no / 8)) (max at_ (no * 8) % 64) ((bs.drop (max at_ (no * 8) - at_)).take (8 - max at_ (no * 8) % 8))).length = 64 := by
    have h1 := line_len hok hi
    rw [length_splice _ _ _ (by rw [h1, List.length_take]; omega), h1]
  exact Every.put (i := no / 8) hok.len hi hl hj h hP
theorem Every.flush {σ : St} {i j : Nat} {P : List Nat → Prop} (h : Every σ j P) : Every (flushDo σ i) j P := h
theorem Every.fence {σ : St} {j : Nat} {P : List Nat → Prop} (h : Every σ j P) : Every (fenceDo σ) j P := by
  refine ⟨h.1, fun c hc => h.2 c ?_⟩
  have hc : c ∈ fenP σ false j := hc
  unfold fenP at hc
  split at hc
  · rw [if_neg (by simp)] at hc
    exact List.mem_of_mem_drop hc
  · exact hc
theorem Every.lost {σ σ' : St} {kp : List Nat} {j : Nat} {P : List Nat → Prop} (hl : Lost σ kp σ') (hj : j < σ.n) (h : Every σ j P) : P (σ'.line j) := by
  rw [hl.lines j hj]
  unfold Go.Proofs.Ytmgeokmgidnneaa.lost
  cases hk : (σ.past j)[lostK σ kp j]? with
  | none => exact h.1
  | some c => exact h.2 c (List.mem_of_getElem? hk)
theorem Every.mono {σ : St} {j : Nat} {P Q : List Nat → Prop} (h : Every σ j P) (hpq : ∀ c, P c → Q c) : Every σ j Q := ⟨hpq _ h.1, fun c hc => hpq c (h.2 c hc)⟩
/-- A line that was flushed behind all its contents has one content behind a Fence. -/
theorem fence_one {σ : St} {j : Nat} (h : σ.fl j = some (σ.past j).length ∨ σ.past j = []) (hf : ∀ k, σ.fl j = some k → σ.past j ≠ []) : (fenceDo σ).past j = [] := by
  show fenP σ false j = []
  unfold fenP
  rcases h with h | h
  · rw [h]
    simp
  · cases hq : σ.fl j with
    | none => exact h
    | some k => exact absurd h (hf k hq)

/-- A byte that all contents of its line have. -/
def Sure (σ : St) (a x : Nat) : Prop := Every σ (a / 64) (fun c => c[a % 64]? = some x)
theorem line_get {σ : St} {i k : Nat} (hk : k < 64) : (σ.line i)[k]? = σ.bytes[64 * i + k]? := by
  unfold St.line
  rw [List.getElem?_take, if_pos hk, List.getElem?_drop]
theorem Sure.seen {σ : St} {a x : Nat} (h : Sure σ a x) : σ.bytes[a]? = some x := by
  have h1 : (σ.line (a / 64))[a % 64]? = some x := h.1
  rw [line_get (by omega), show 64 * (a / 64) + a % 64 = a by omega] at h1
  exact h1
theorem Sure.word {bs : List Nat} {at_ no : Nat} {σ : St} {a x : Nat} (hok : σ.Ok) (hi : no / 8 < σ.n) (ha : a / 64 < σ.n) (h : Sure σ a x) (hno : a < at_ ∨ at_ + bs.length ≤ a) (h8 : max at_ (no * 8) < no * 8 + 8) : Sure (wordDo bs at_ σ no) a x := by
  refine Every.word hok hi ha h (fun e => ?_)
  have h1 : (σ.line (a / 64))[a % 64]? = some x := h.1
  have hl := line_len hok hi
  have e2 : max at_ (no * 8) % 8 + (max at_ (no * 8) / 8) * 8 = max at_ (no * 8) := by omega
  have hp : ((bs.drop (max at_ (no * 8) - at_)).take (8 - max at_ (no * 8) % 8)).length = min (8 - max at_ (no * 8) % 8) (bs.length - (max at_ (no * 8) - at_)) := by rw [List.length_take, List.length_drop]
  rw [splice_get _ _ _ _ (by rw [hl, hp]; omega), hp, ← e]
  by_cases c1 : a % 64 < max at_ (no * 8) % 64
  · rw [if_pos c1]; exact h1
  · rw [if_neg c1]
    by_cases c2 : a % 64 < max at_ (no * 8) % 64 + min (8 - max at_ (no * 8) % 8) (bs.length - (max at_ (no * 8) - at_))
    · exfalso
      have q1 : max at_ (no * 8) / 64 = a / 64 := by omega
      omega
    · rw [if_neg c2]; exact h1
theorem Sure.write {bs : List Nat} {at_ : Nat} (hbs : ∀ x ∈ bs, x < 256) {a x : Nat} (hno : a < at_ ∨ at_ + bs.length ≤ a) : ∀ (nos : List Nat) (σ : St), σ.Ok → (∀ no ∈ nos, no / 8 < σ.n ∧ max at_ (no * 8) < no * 8 + 8) → σ.ops + nos.length ≤ 1400000000000 → a / 64 < σ.n → Sure σ a x → Sure (writeDo bs at_ σ nos) a x
  | [], σ, _, _, _, _, h => h
  | no :: nos, σ, hok, hn, hb, ha, h => by
    rw [List.length_cons] at hb
    obtain ⟨hi, h8⟩ := hn no (by simp)
    obtain ⟨h1, h2⟩ := word_part (at_ := at_) hbs hok hi
    have hok' : (wordDo bs at_ σ no).Ok := put_ok hok hi h1 h2 (by omega)
    exact Sure.write hbs hno nos (wordDo bs at_ σ no) hok' (fun y hy => hn y (by simp [hy])) (by show σ.ops + 1 + nos.length ≤ _; omega) ha (h.word hok hi ha hno h8)
theorem wordsOf_max {at_ n : Nat} (h : at_ + n ≤ 4194304) : ∀ no ∈ wordsOf at_ n, max at_ (no * 8) < no * 8 + 8 := by
  intro no hno
  rw [wordsOf_eq at_ n h] at hno
  split at hno
  · cases hno
  · obtain ⟨i, hi, rfl⟩ := List.mem_map.1 hno
    have := List.mem_range.1 hi
    omega
theorem Sure.store {bs : List Nat} {at_ : Nat} {σ : St} {a x : Nat} (hbs : ∀ x ∈ bs, x < 256) (hok : σ.Ok) (hlen : at_ + bs.length ≤ 64 * σ.n) (hops : σ.ops + 600000 ≤ 1400000000000) (ha : a / 64 < σ.n) (hno : a < at_ ∨ at_ + bs.length ≤ a) (h : Sure σ a x) : Sure (writeDo bs at_ σ (wordsOf at_ bs.length)) a x := by
  have hm := hok.max
  have hw := wordsOf_len (at_ := at_) (n := bs.length) (by omega)
  exact Sure.write hbs hno _ σ hok (fun no hn => ⟨wordsOf_lt hlen hm no hn, wordsOf_max (by omega) no hn⟩) (by omega) ha h
theorem Sure.lost {σ σ' : St} {kp : List Nat} {a x : Nat} (hl : Lost σ kp σ') (ha : a / 64 < σ.n) (h : Sure σ a x) : σ'.bytes[a]? = some x := by
  have h1 : (σ'.line (a / 64))[a % 64]? = some x := Every.lost (P := fun c => c[a % 64]? = some x) hl ha h
  rw [line_get (by omega), show 64 * (a / 64) + a % 64 = a by omega] at h1
  exact h1
end Go.Proofs.Ytmgeokmgidnneaa
