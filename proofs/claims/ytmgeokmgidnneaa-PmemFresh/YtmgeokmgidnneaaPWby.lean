/- Package pmem: what is seen behind a Store. -/
import Derived.Test.YtmgeokmgidnneaaPSto
namespace Go.Proofs.Ytmgeokmgidnneaa
open Go.RowKit Go.Shelf
set_option linter.unusedVariables false

theorem splice_in (l p : List Nat) (i o : Nat) (hi : 64 * i + 64 ≤ l.length) (ho : o + p.length ≤ 64) : splice l (64 * i) (splice ((l.drop (64 * i)).take 64) o p) = splice l (64 * i + o) p := by
  have l0 : ((l.drop (64 * i)).take 64).length = 64 := by rw [List.length_take, List.length_drop]; omega
  have l1 := splice_len ((l.drop (64 * i)).take 64) p o (by omega)
  refine List.ext_getElem? fun q => ?_
  rw [splice_get _ _ _ _ (by omega), splice_get _ _ _ _ (by omega), splice_get _ _ _ _ (by omega), l1, l0]
  by_cases h0 : q < 64 * i
  · rw [if_pos h0, if_pos (by omega)]
  · rw [if_neg h0]
    by_cases h1 : q < 64 * i + 64
    · rw [if_pos h1]
      by_cases h2 : q < 64 * i + o
      · rw [if_pos (by omega), if_pos h2, List.getElem?_take, if_pos (by omega), List.getElem?_drop]
        congr 1
        omega
      · rw [if_neg (by omega), if_neg h2]
        by_cases h3 : q < 64 * i + o + p.length
        · rw [if_pos (by omega), if_pos h3]
          congr 1
          omega
        · rw [if_neg (by omega), if_neg h3, List.getElem?_take, if_pos (by omega), List.getElem?_drop]
          congr 1
          omega
    · rw [if_neg h1, if_neg (by omega), if_neg (by omega)]
theorem wordDo_bytes {bs : List Nat} {at_ no : Nat} {σ : St} (hl : σ.bytes.length = 64 * σ.n) (hi : no / 8 < σ.n) (fr : Nat) (hfr : fr = max at_ (no * 8)) (hf3 : fr < no * 8 + 8) : (wordDo bs at_ σ no).bytes = splice σ.bytes fr ((bs.drop (fr - at_)).take (8 - fr % 8)) := by
  show splice σ.bytes (64 * (no / 8)) (splice (σ.line (no / 8)) (max at_ (no * 8) % 64) ((bs.drop (max at_ (no * 8) - at_)).take (8 - max at_ (no * 8) % 8))) = _
  rw [← hfr]
  unfold St.line
  rw [splice_in _ _ _ _ (by omega) (by rw [List.length_take]; omega)]
  congr 1
  omega
theorem words_bytes {bs : List Nat} {at_ : Nat} (hbs : ∀ x ∈ bs, x < 256) {σ : St} (hok : σ.Ok) (hlen : at_ + bs.length ≤ 64 * σ.n) (hops : σ.ops + 600000 ≤ 1400000000000) (hn : 1 ≤ bs.length) : ∀ m, m ≤ (at_ + bs.length - 1) / 8 - at_ / 8 + 1 →
    (writeDo bs at_ σ ((List.range m).map (at_ / 8 + ·))).bytes = splice σ.bytes at_ (bs.take (min bs.length ((at_ / 8 + m) * 8 - at_)))
  | 0, _ => by
    have e : (at_ / 8 + 0) * 8 - at_ = 0 := by omega
    rw [e, Nat.min_zero, List.take_zero, splice_nil]
    rfl
  | m + 1, hm => by
    have ih := words_bytes hbs hok hlen hops hn m (by omega)
    have hmx := hok.max
    have hol := hok.len
    have hlk := write_like (at_ := at_) hbs ((List.range m).map (at_ / 8 + ·)) σ hok (fun no h => by
      obtain ⟨i, hi, rfl⟩ := List.mem_map.1 h
      have := List.mem_range.1 hi
      omega) (by simp; omega)
    rw [List.range_succ, List.map_append, List.map_cons, List.map_nil, writeDo_snoc]
    obtain ⟨fr, hfr⟩ : ∃ fr, fr = max at_ ((at_ / 8 + m) * 8) := ⟨_, rfl⟩
    rw [wordDo_bytes (by rw [hlk.ok.len]) (by rw [hlk.n]; omega) fr hfr (by omega), ih]
    have e1 : min bs.length ((at_ / 8 + m) * 8 - at_) = fr - at_ := by omega
    obtain ⟨p, hp⟩ : ∃ p, p = min (8 - fr % 8) (bs.length - (fr - at_)) := ⟨_, rfl⟩
    have e2 : (bs.drop (fr - at_)).take (8 - fr % 8) = (bs.drop (fr - at_)).take p := by
      rw [hp]
      refine List.ext_getElem? fun q => ?_
      rw [List.getElem?_take, List.getElem?_take, List.getElem?_drop]
      by_cases h1 : q < bs.length - (fr - at_)
      · by_cases h2 : q < 8 - fr % 8
        · rw [if_pos h2, if_pos (by omega)]
        · rw [if_neg h2, if_neg (by omega)]
      · rw [if_neg (show ¬ q < min (8 - fr % 8) (bs.length - (fr - at_)) by omega)]
        split
        · rw [List.getElem?_eq_none (by omega)]
        · rfl
    rw [e1, e2, splice_words σ.bytes bs at_ fr (by omega) (by omega) (by omega) p (by omega) (by omega)]
    congr 2
    omega
theorem store_bytes {bs : List Nat} {at_ : Nat} (hbs : ∀ x ∈ bs, x < 256) {σ : St} (hok : σ.Ok) (hlen : at_ + bs.length ≤ 64 * σ.n) (hops : σ.ops + 600000 ≤ 1400000000000) : (writeDo bs at_ σ (wordsOf at_ bs.length)).bytes = splice σ.bytes at_ bs := by
  have hmx := hok.max
  rw [wordsOf_eq at_ bs.length (by omega)]
  by_cases h0 : bs.length = 0
  · rw [if_pos h0, List.eq_nil_of_length_eq_zero h0, splice_nil]
    rfl
  · rw [if_neg h0, words_bytes hbs hok hlen hops (by omega) _ (Nat.le_refl _), List.take_of_length_le (by omega)]
end Go.Proofs.Ytmgeokmgidnneaa
