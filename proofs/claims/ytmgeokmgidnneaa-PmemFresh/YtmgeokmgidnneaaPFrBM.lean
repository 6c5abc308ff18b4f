/- PmemFresh: what lies apart; stores into both; words of bytes. -/
import Derived.Test.YtmgeokmgidnneaaPLsAM
import Derived.Test.YtmgeokmgidnneaaPImg
import Derived.Deep.Cut
import Derived.ArgAppend
import Derived.Deep.RegionWith
import Derived.BigRegion
import Derived.Deep.QuietTactic
import Derived.BigQuiet
import Derived.Test.YtmgeokmgidnneaaPDev
import Derived.Test.YtmgeokmgidnneaaROpenM
import Derived.Test.YtmgeokmgidnneaaPWby
namespace Go.Proofs.Ytmgeokmgidnneaa
open Go.RowKit Go.Shelf
set_option linter.unusedVariables false

/-- A script that is handed in. -/
structure ScrP (w : World) (a : Option Addr) (ns : Nat) (xs : List StpR) : Prop where
  row : RowC 7 (fun s : StpR => s.vals.toList) w a xs
  ok : ∀ s ∈ xs, s.Ok
  len : xs.length = ns
  few : ns ≤ 1353300000000
theorem ScrP.below {w w' : World} {a : Option Addr} {ns : Nat} {xs : List StpR} (h : ScrP w a ns xs) (hB : Below w.heap.size w w') : ScrP w' a ns xs := ⟨h.row.below hB, h.ok, h.len, h.few⟩
/-- The crash, where all numbers may be. -/
theorem pd_crash {w W W4 : World} {p b m nk : Nat} {K : Kl} {L : Lay} {B : Bk} {σ : St} {zs : List Int} {ca : Option Addr} {cc : Nat} (h : Pd w W p b K L B σ) (st : StepOk B σ) (hn : σ.n = m) (hz : ∀ z ∈ zs, -9223372036854775808 ≤ z ∧ z ≤ 9223372036854775807) (hnk : zs.length = nk) (hk9 : nk ≤ 17592186043904) (hg : nonneg zs = true) (ho : OwnI W4 W.heap.size (.slice ca nk cc) zs) (hB : Below W.heap.size W W4) :
    Calls Try.prog 20 #[.pointer (some ⟨b, 0, none⟩), .slice ca nk cc] W4 fun e W5 => e = .returned (.int .i64 0) ∧ W5.cell? ⟨p, 0, none⟩ = some (.pointer (some ⟨b, 0, none⟩)) ∧ ∃ L' σ', Lost σ (zs.map Int.toNat) σ' ∧ Pd w W5 p b K L' B σ' ∧ Gr (fun k => k = b ∨ k = L.sb) W4 W5 := by
  have h4 := h.below hB
  have hk := ho.slN hnk hz hg
  have hc := pcrash_any cc h4.dev st.ok st.off hk (by rw [List.length_map, hnk]; omega)
  rw [List.length_map, hnk] at hc
  refine hc.mono ?_
  rintro e W5 ⟨rfl, L', σ', q1, q2, q3, q4, q5⟩
  have hsub : ∀ k, (k = b ∨ k = L.sb) → Foot b L σ k := fun k hk => hk.elim (fun e => .inl e) (fun e => .inr (.inl e))
  have hp5 : PlL W5 p b K B := h4.pl.gr q4 (fun k hk hx => h4.dis k hk (hsub k hx))
  have hpd : Pd w W5 p b K L' B σ' := by
    refine h4.step q2 (by rw [q1.ops]; have := h4.num; omega) hp5 (q4.mono (fun k hk => .inl (hsub k hk))) q3 (fun k hk hf => ?_) (fun k hk => .inl hk)
    rcases q3 k hf with h5 | h5
    · exact h4.dis k hk h5
    · have := h4.pl.lt hk; omega
  exact ⟨rfl, hp5.c 0, L', σ', q1, hpd, q4⟩
/-- What the last loop reads. -/
structure LsAt (w W : World) (p b : Nat) (K : Kl) (B : Bk) (R I : Nat) (sb ib : List Nat) : Prop where
  pl : PlL W p b K B
  rs : OwnB W R sb
  ri : OwnB W I ib
  bel : Below w.heap.size w W
theorem LsAt.below {w W W' : World} {p b : Nat} {K : Kl} {B : Bk} {R I : Nat} {sb ib : List Nat} (h : LsAt w W p b K B R I sb ib) (hB : Below W.heap.size W W') : LsAt w W' p b K B R I sb ib := ⟨h.pl.below hB, h.rs.below hB h.rs.lt, h.ri.below hB h.ri.lt, h.bel.trans (hB.mono h.bel.size)⟩
/-- The number of a word of bytes. -/
theorem num_at {W : World} {R i nb v : Nat} {sb : List Nat} (h : OwnB W R sb) (hb : ∀ x ∈ sb, x < 256) (hl : sb.length = nb) (hi : 8 * i + 8 ≤ nb) (hw : (sb.drop (8 * i)).take 8 = leB 8 v) (hv : v < 18446744073709551616) : Calls Try.prog 15 #[.slice (some ⟨R, 8 * i, none⟩) (nb - 8 * i) (nb - 8 * i)] W fun e w' => e = .returned (.int .u64 (v : Int)) ∧ w' = W := by
  have h1 := pnumber (w := W) (g := R) (o := 8 * i) (len := nb - 8 * i) (cap := nb - 8 * i) (ys := leB 8 v) (leB_length 8 v) (leB_lt 8 v) (fun j x hx => ?_) (by omega)
  · rw [leV_of hv] at h1
    exact h1
  · rw [← hw, List.getElem?_take] at hx
    split at hx
    · rw [List.getElem?_drop] at hx
      exact h.cell _ _ hx
    · cases hx
end Go.Proofs.Ytmgeokmgidnneaa
namespace Go.Proofs.Ytmgeokmgidnneaa
open Go.RowKit
set_option linter.unusedVariables false

theorem Try.info22 : (Try.prog.info? 36).map (fun i => (i.zero, i.size, i.bytes)) = some (some (.slice none 0 0), 1, 24) := by kernel_rfl

theorem ownsRow_below {W W' : World} {base : Nat} {e : TypeId} {size : Nat} {v : Value} {k : Nat} {xs : List Value} (h : W.ownsRow base e size v k xs) (hb : Below W.heap.size W W') : W'.ownsRow base e size v k xs := by
  refine ⟨h.1, ?_⟩
  rcases h.2 with h2 | ⟨g, cap, cur, hv, hg, hh, r⟩
  · exact .inl h2
  · exact .inr ⟨g, cap, cur, hv, hg, (hb.block g (Array.getElem?_eq_some_iff.1 hh).1).trans hh, r⟩

/-- Bytes that lie ahead of the call's own memory, or in a block of bytes. -/
def Piece (W : World) (base : Nat) (a : Option Addr) (bs : List Nat) : Prop :=
  bs = [] ∨ ∃ b off, a = some ⟨b, off, none⟩ ∧ b < W.heap.size ∧ (b < base ∨ ∃ cur fr, W.heap[b]? = some (.cells cur 5 fr)) ∧ Seg W b off bs

theorem Piece.sl {W : World} {base : Nat} {a : Option Addr} {bs : List Nat} (h : Piece W base a bs) : Sl W a bs := by
  rcases h with h | ⟨b, off, ha, hl, _, hs⟩
  · exact .inl h
  · exact .inr ⟨b, off, ha, hl, hs⟩
theorem Piece.of_block {W W' : World} {base : Nat} {a : Option Addr} {bs : List Nat} (h : Piece W base a bs) (hs : W.heap.size ≤ W'.heap.size) (hk : ∀ b, b < W.heap.size → (b < base ∨ ∃ cur fr, W.heap[b]? = some (.cells cur 5 fr)) → W'.heap[b]? = W.heap[b]?) : Piece W' base a bs := by
  rcases h with h | ⟨b, off, ha, hl, ht, hg⟩
  · exact .inl h
  · have e := hk b hl ht
    refine .inr ⟨b, off, ha, Nat.lt_of_lt_of_le hl hs, ?_, fun i x hx => ⟨(World.cell?_of_block (w := W) (a := ⟨b, off + i, none⟩) e).trans (hg i x hx).1, (hg i x hx).2⟩⟩
    rcases ht with ht | ⟨cur, fr, ht⟩
    · exact .inl ht
    · exact .inr ⟨cur, fr, e.trans ht⟩
theorem Piece.below {W W' : World} {base : Nat} {a : Option Addr} {bs : List Nat} (h : Piece W base a bs) (hb : Below W.heap.size W W') : Piece W' base a bs :=
  h.of_block hb.size fun b hl _ => hb.block b hl
theorem Piece.grown {W W' : World} {base : Nat} {a : Option Addr} {bs : List Nat} {v : Value} {k : Nat} {xs : List Value} (h : Piece W base a bs) (hown : W.ownsRow base 36 1 v k xs) (hg : W.grownBy W' v.ownBlock) : Piece W' base a bs := by
  refine h.of_block hg.size fun b hl ht => hg.block b hl fun e => ?_
  rcases hown.2 with ⟨rfl, _⟩ | ⟨g, cap, cur, rfl, hb, hh, _⟩
  · simp [Value.ownBlock] at e
  · obtain rfl : b = g := by simpa [Value.ownBlock] using e
    rcases ht with ht | ⟨c2, fr, ht⟩
    · omega
    · rw [hh] at ht; simp at ht
theorem OwnB.piece {W : World} {g : Nat} {bs : List Nat} (h : OwnB W g bs) (base : Nat) (hx : ∀ x ∈ bs, x < 256) : Piece W base (some ⟨g, 0, none⟩) bs :=
  .inr ⟨g, 0, rfl, h.lt, .inr ⟨_, _, h⟩, fun i x hi => ⟨by rw [Nat.zero_add]; exact h.cell i x hi, hx x (List.mem_of_getElem? hi)⟩⟩

/-- Cells that hold slices of these bytes. -/
def Ties (W : World) (base : Nat) (cs : List Value) (rs : List (List Nat)) : Prop :=
  cs.length = rs.length ∧ ∀ (i : Nat) (r : List Nat), rs[i]? = some r → ∃ ai ci, cs[i]? = some (.slice ai r.length ci) ∧ Piece W base ai r ∧ r.length ≤ maxLen

theorem Ties.nil (W : World) (base : Nat) : Ties W base [] [] := ⟨rfl, fun i r h => by simp at h⟩
theorem Ties.below {W W' : World} {base : Nat} {cs : List Value} {rs : List (List Nat)} (h : Ties W base cs rs) (hb : Below W.heap.size W W') : Ties W' base cs rs :=
  ⟨h.1, fun i r hr => by obtain ⟨ai, ci, h1, h2, h3⟩ := h.2 i r hr; exact ⟨ai, ci, h1, h2.below hb, h3⟩⟩
theorem Ties.grown {W W' : World} {base : Nat} {cs : List Value} {rs : List (List Nat)} {v : Value} {k : Nat} {xs : List Value} (h : Ties W base cs rs) (hown : W.ownsRow base 36 1 v k xs) (hg : W.grownBy W' v.ownBlock) : Ties W' base cs rs :=
  ⟨h.1, fun i r hr => by obtain ⟨ai, ci, h1, h2, h3⟩ := h.2 i r hr; exact ⟨ai, ci, h1, h2.grown hown hg, h3⟩⟩
theorem Ties.snoc {W : World} {base : Nat} {cs : List Value} {rs : List (List Nat)} (h : Ties W base cs rs) {a : Option Addr} {r : List Nat} (c : Nat) (hp : Piece W base a r) (hl : r.length ≤ maxLen) : Ties W base (cs ++ [.slice a r.length c]) (rs ++ [r]) := by
  refine ⟨by simp [h.1], fun i r' hr => ?_⟩
  by_cases hi : i < rs.length
  · rw [List.getElem?_append_left hi] at hr
    rw [List.getElem?_append_left (by rw [h.1]; exact hi)]
    exact h.2 i r' hr
  · rw [List.getElem?_append_right (by omega)] at hr
    rw [List.getElem?_append_right (by rw [h.1]; omega), h.1]
    have h0 : i - rs.length = 0 := by
      have := (List.getElem?_eq_some_iff.1 hr).1
      simp at this
      omega
    rw [h0] at hr ⊢
    simp at hr
    subst hr
    exact ⟨a, c, by simp, hp, hl⟩
theorem slr_of_owns {W : World} {base : Nat} {v : Value} {cs : List Value} {rs : List (List Nat)} (h : W.ownsRow base 36 1 v cs.length cs) (ht : Ties W base cs rs) : ∃ a cap, v = .slice a rs.length cap ∧ SlR W a rs := by
  rcases h.2 with ⟨rfl, h0⟩ | ⟨g, cap, cur, rfl, _, hg, hn, _, hs, hc⟩
  · rw [ht.1] at h0
    exact ⟨none, 0, by rw [h0], .inl (List.eq_nil_of_length_eq_zero h0)⟩
  · refine ⟨_, cap, by rw [ht.1], .inr ⟨g, 0, rfl, (Array.getElem?_eq_some_iff.1 hg).1, fun i r hr => ?_⟩⟩
    obtain ⟨ai, ci, h1, h2, h3⟩ := ht.2 i r hr
    refine ⟨ai, ci, ?_, h2.sl, h3⟩
    have hi : i < cs.length := (List.getElem?_eq_some_iff.1 h1).1
    rw [← hc, List.getElem?_take, if_pos (by omega)] at h1
    simp only [Nat.zero_add, World.cell?, hg]
    simpa using h1

end Go.Proofs.Ytmgeokmgidnneaa
namespace Go.Proofs.Ytmgeokmgidnneaa
open Go.RowKit
set_option linter.unusedVariables false

theorem flat_at {rs : List (List Nat)} {i : Nat} {r : List Nat} (h : rs[i]? = some r) : (rs.take i).flatten.length + r.length ≤ rs.flatten.length := by
  have e := List.take_append_drop (i + 1) rs
  have l := congrArg (fun l => l.flatten.length) e
  simp only [List.flatten_append, List.length_append, List.take_add_one, h, Option.toList_some, List.flatten_cons, List.flatten_nil, List.append_nil] at l
  omega
theorem flat_next {rs : List (List Nat)} {i : Nat} {r : List Nat} (h : rs[i]? = some r) : (rs.take (i + 1)).flatten = (rs.take i).flatten ++ r := by
  simp [List.take_add_one, h]



end Go.Proofs.Ytmgeokmgidnneaa
namespace Go.Proofs.Ytmgeokmgidnneaa
open Go.RowKit
set_option linter.unusedVariables false

theorem ret_int' {k : IntKind} {a b : Int} (h : a = b) : Ending.returned (.int k a) = .returned (.int k b) := by rw [h]

/-- The number of so many bytes at a place, and the error's number. -/
def takeV (bs : List Nat) (p : Int) (n : Nat) : Nat × Int :=
  if p < 0 ∨ (bs.length : Int) - n < p then (0, 6) else (leV ((bs.drop p.toNat).take n), 0)
theorem takeV_lt (bs : List Nat) (p : Int) (n : Nat) (h : ∀ x ∈ bs, x < 256) : (takeV bs p n).1 < 256 ^ n := by
  unfold takeV
  split
  · exact Nat.pow_pos (by omega)
  · refine Nat.lt_of_lt_of_le (leV_lt _ fun x hx => h x (List.mem_of_mem_drop (List.mem_of_mem_take hx))) (Nat.pow_le_pow_right (by omega) (List.length_take_le _ _))
theorem leB_mod (n v : Nat) : leB n (v % 256 ^ n) = leB n v := by
  induction n generalizing v with
  | zero => rfl
  | succ n ih =>
    simp only [leB]
    have e1 : v % 256 ^ (n + 1) % 256 = v % 256 := Nat.mod_mod_of_dvd v ⟨256 ^ n, by rw [Nat.pow_succ, Nat.mul_comm]⟩
    have e2 : v % 256 ^ (n + 1) / 256 = v / 256 % 256 ^ n := by rw [Nat.pow_succ, Nat.mul_comm, Nat.mod_mul_right_div_self]
    rw [e1, e2, ih]

end Go.Proofs.Ytmgeokmgidnneaa
namespace Go.Proofs.Ytmgeokmgidnneaa
open Go.RowKit
set_option linter.unusedVariables false

theorem shr_byte (v k : Nat) : (v : Int) / 2 ^ (8 * k) % 256 = ((v / 256 ^ k % 256 : Nat) : Int) := by
  have e : (2 : Int) ^ (8 * k) = ((256 ^ k : Nat) : Int) := by rw [Int.pow_mul, Int.natCast_pow]; rfl
  rw [e, ← Int.natCast_ediv]
  omega
theorem leB_take (n v k x : Nat) (h : k < n) (hx : x = v / 256 ^ k % 256) : (leB n v).take (k + 1) = (leB n v).take k ++ [x] := by
  rw [List.take_add_one, leB_get n v k h, hx]; rfl


def markOf (i k : Nat) : Nat := (i * 31 + k * 7 + 1) % 256
theorem mark_any (i k : Nat) (w : World) (hi : i ≤ 1000000000000) (hk : k ≤ 1000000000000000) :
    Calls Try.prog 37 #[.int .i64 i, .int .i64 k] w fun e w' => e = .returned (.int .u8 ((markOf i k : Nat) : Int)) ∧ w' = w := by
  go_enter Try.func37, Try.ntmps37
  go_wp2
  go_ret
  exact ⟨ret_int' (by unfold markOf; omega), rfl⟩

theorem xor_half (a b : Nat) : (a ^^^ b) / 2 = a / 2 ^^^ b / 2 := Nat.xor_div_two
theorem xor_low (a b : Nat) : (a ^^^ b) % 2 = (a % 2 + b % 2) % 2 := by
  have e : (a ^^^ b) % 2 ^ 1 = a % 2 ^ 1 ^^^ b % 2 ^ 1 := Nat.xor_mod_two_pow
  rw [Nat.pow_one] at e
  rw [e]
  rcases Nat.mod_two_eq_zero_or_one a with h1 | h1 <;> rcases Nat.mod_two_eq_zero_or_one b with h2 | h2 <;> rw [h1, h2] <;> rfl
def refStep (r y : Nat) : Nat := if y % 2 = r % 2 then r / 2 else r / 2 ^^^ 2197175160
theorem refStep_eq (r y : Nat) : bitStep (r ^^^ y) = refStep r y ^^^ (y / 2) := by
  unfold bitStep refStep
  rw [xor_low, xor_half]
  by_cases h : y % 2 = r % 2
  · rw [if_neg (by omega), if_pos h]
  · rw [if_pos (by omega), if_neg h, Nat.xor_assoc, Nat.xor_comm (y / 2), ← Nat.xor_assoc]
theorem refStep_lt (r y : Nat) (h : r < 4294967296) : refStep r y < 4294967296 := by
  unfold refStep
  split
  · omega
  · exact xor_lt32 _ _ (by omega) (by omega)
theorem refSteps_next {z R x k : Nat} (h : bitSteps k z = R ^^^ x / 2 ^ k) : bitSteps (k + 1) z = refStep R (x / 2 ^ k) ^^^ x / 2 ^ (k + 1) := by
  show bitStep (bitSteps k z) = _
  rw [h, refStep_eq, Nat.pow_succ, Nat.div_div_eq_div_mul]
theorem refSteps_end {z R x : Nat} (hx : x < 256) (h : bitSteps 8 z = R ^^^ x / 2 ^ 8) : bitSteps 8 z = R := by
  rw [h, Nat.div_eq_of_lt (by omega), Nat.xor_zero]

theorem ref_inv (s : Nat) (h : s < 4294967296) : bits BinOp.xor IntKind.u64 (s : Int) 4294967295 = ((4294967295 ^^^ s : Nat) : Int) := by
  rw [Nat.xor_comm]; exact u64_xor_nat s 4294967295 (by omega) (by omega)
theorem ref_mix (r : Nat) (h : r < 4294967296) : bits BinOp.xor IntKind.u64 (r : Int) 2197175160 = ((r ^^^ 2197175160 : Nat) : Int) :=
  u64_xor_nat r 2197175160 (by omega) (by omega)
theorem ref_bit (x k : Nat) : (x : Int) / 2 ^ k = ((x / 2 ^ k : Nat) : Int) := by rw [Int.natCast_ediv, Int.natCast_pow]; rfl


end Go.Proofs.Ytmgeokmgidnneaa
namespace Go.Proofs.Ytmgeokmgidnneaa
open Go.RowKit
set_option linter.unusedVariables false

/-- The marks of list number i. -/
def marksOf (i n : Nat) : List Nat := (List.range n).map (markOf i)
theorem marksOf_length (i n : Nat) : (marksOf i n).length = n := by simp [marksOf]
theorem marksOf_get {i n k : Nat} (h : k < n) : (marksOf i n)[k]? = some (markOf i k) := by simp [marksOf, h]
theorem marksOf_succ (i n : Nat) : marksOf i (n + 1) = marksOf i n ++ [markOf i n] := by simp [marksOf, List.range_succ]
theorem markOf_lt (i k : Nat) : markOf i k < 256 := Nat.mod_lt _ (by omega)
theorem marksOf_lt (i n : Nat) : ∀ x ∈ marksOf i n, x < 256 := by
  intro x hx
  obtain ⟨k, _, rfl⟩ := List.mem_map.1 hx
  exact markOf_lt i k

/-- The first bytes of one list, the others of another. -/
def mixed (l r : List Nat) (k : Nat) : List Nat := l.take k ++ r.drop k
theorem mixed_zero (l r : List Nat) : mixed l r 0 = r := by simp [mixed]
theorem mixed_all (l r : List Nat) (k : Nat) (h1 : l.length ≤ k) (h2 : r.length ≤ k) : mixed l r k = l := by simp [mixed, List.take_of_length_le h1, List.drop_eq_nil_of_le h2]
theorem mixed_get (l r : List Nat) (k : Nat) (h1 : k ≤ l.length) : (mixed l r k)[k]? = r[k]? := by
  unfold mixed
  rw [List.getElem?_append_right (by simp; omega), List.getElem?_drop]
  simp [Nat.min_eq_left h1]
theorem mixed_set (l r : List Nat) (k x : Nat) (hl : l[k]? = some x) (hr : k < r.length) : (mixed l r k).set k x = mixed l r (k + 1) := by
  have h1 : k < l.length := (List.getElem?_eq_some_iff.1 hl).1
  unfold mixed
  have e : r.drop k = r[k] :: r.drop (k + 1) := List.drop_eq_getElem_cons hr
  rw [List.set_append_right _ _ (by simp; omega), List.length_take, Nat.min_eq_left (by omega), Nat.sub_self, e, List.set_cons_zero, List.take_add_one, hl]
  simp

theorem OwnB.other {w : World} {g g' i : Nat} {bs : List Nat} {v : Value} (h : OwnB w g bs) (hne : g ≠ g') : OwnB (w.setCell ⟨g', i, none⟩ v) g bs := by
  unfold OwnB at *
  simp only [World.setCell, Array.getElem?_modify, h]
  rw [if_neg (fun e => hne e.symm)]
theorem block_other {w : World} {b g' i : Nat} {v : Value} (hne : b ≠ g') : (w.setCell ⟨g', i, none⟩ v).heap[b]? = w.heap[b]? := by
  simp only [World.setCell, Array.getElem?_modify]
  rw [if_neg (fun e => hne e.symm)]
theorem ownsRow_base {W : World} {base base' : Nat} {e : TypeId} {size : Nat} {v : Value} {k : Nat} {xs : List Value} (h : W.ownsRow base e size v k xs) (hb : base' ≤ base) : W.ownsRow base' e size v k xs := by
  refine ⟨h.1, ?_⟩
  rcases h.2 with h2 | ⟨g, cap, cur, hv, hg, r⟩
  · exact .inl h2
  · exact .inr ⟨g, cap, cur, hv, Nat.le_trans hb hg, r⟩
theorem piece_of_owns {W : World} {base base' : Nat} {a : Option Addr} {c : Nat} {bs : List Nat} (h : W.ownsRow base' 5 1 (.slice a bs.length c) bs.length (bs.map B8)) (hx : ∀ x ∈ bs, x < 256) : Piece W base a bs := by
  rcases h.2 with ⟨h1, h0⟩ | ⟨g, cap, cur, hv, _, hg, hn, _, hs, hc⟩
  · exact .inl (List.eq_nil_of_length_eq_zero h0)
  · cases hv
    refine .inr ⟨g, 0, rfl, (Array.getElem?_eq_some_iff.1 hg).1, .inr ⟨_, _, hg⟩, fun i x hx' => ⟨?_, hx x (List.mem_of_getElem? hx')⟩⟩
    have h1 : (bs.map B8)[i]? = some (B8 x) := by rw [List.getElem?_map, hx']; rfl
    have h2 : i < bs.length := (List.getElem?_eq_some_iff.1 hx').1
    rw [← hc, List.getElem?_take, if_pos (by omega)] at h1
    simp only [Nat.zero_add, World.cell?, hg]
    simpa [B8] using h1

theorem owns_cut {W : World} {base m : Nat} {e : TypeId} {v : Value} {xs : List Value} (h : W.ownsRow base e 1 v m xs) (hm : 0 < m) : ∃ g c, v = .slice (some ⟨g, 0, none⟩) m c := by
  rcases h.2 with ⟨_, h0⟩ | ⟨g, cap, cur, hv, _⟩
  · omega
  · exact ⟨g, cap, hv⟩

end Go.Proofs.Ytmgeokmgidnneaa
namespace Go.Proofs.Ytmgeokmgidnneaa
open Go.RowKit
set_option linter.unusedVariables false

/-- A block of type t holds these bytes. -/
def OwnT (t : TypeId) (w : World) (g : Nat) (bs : List Nat) : Prop := w.heap[g]? = some (.cells (bs.map B8).toArray t (0, 0))
section
variable {t : TypeId}
theorem OwnT.lt {w : World} {g : Nat} {bs : List Nat} (h : OwnT t w g bs) : g < w.heap.size := (Array.getElem?_eq_some_iff.1 h).1
theorem OwnT.frozen {w : World} {g : Nat} {bs : List Nat} (h : OwnT t w g bs) (i : Nat) : w.frozen? ⟨g, i, none⟩ = false := by simp [World.frozen?, show w.heap[g]? = _ from h]
theorem OwnT.cell {w : World} {g : Nat} {bs : List Nat} (h : OwnT t w g bs) (i x : Nat) (hx : bs[i]? = some x) : w.cell? ⟨g, i, none⟩ = some (.int .u8 (x : Int)) := by
  simp [World.cell?, show w.heap[g]? = _ from h, hx, B8]
theorem OwnT.of_block {w w' : World} {g : Nat} {bs : List Nat} (h : OwnT t w g bs) (e : w'.heap[g]? = w.heap[g]?) : OwnT t w' g bs := e.trans h
theorem OwnT.below {B : Nat} {w w' : World} {g : Nat} {bs : List Nat} (h : OwnT t w g bs) (hb : Below B w w') (hg : g < B) : OwnT t w' g bs := h.of_block (hb.block g hg)
theorem OwnT.set {w : World} {g : Nat} {bs : List Nat} (h : OwnT t w g bs) (i x : Nat) : OwnT t (w.setCell ⟨g, i, none⟩ (.int .u8 (x : Int))) g (bs.set i x) := by
  unfold OwnT at *
  simp only [World.setCell, Array.getElem?_modify, h]
  simp [B8, List.map_set]
theorem OwnT.other {w : World} {g g' i : Nat} {bs : List Nat} {v : Value} (h : OwnT t w g bs) (hne : g ≠ g') : OwnT t (w.setCell ⟨g', i, none⟩ v) g bs := by
  unfold OwnT at *
  simp only [World.setCell, Array.getElem?_modify, h]
  rw [if_neg (fun e => hne e.symm)]
/-- Block G j holds the bytes R j, for each of the first n that is no nil. -/
def OwnsT (t : TypeId) (A : Nat → Option Addr) (W : World) (n : Nat) (G : Nat → Nat) (R : Nat → List Nat) : Prop := ∀ j, j < n → A j = some ⟨G j, 0, none⟩ → OwnT t W (G j) (R j)
variable {A : Nat → Option Addr}
theorem OwnsT.step {W : World} {n i o : Nat} {G : Nat → Nat} {R : Nat → List Nat} {v : Value} {r : List Nat} (h : OwnsT t A W n G R) (hi : i < n) (hinj : ∀ j, j < n → j ≠ i → G j ≠ G i) (hr : OwnT t (W.setCell ⟨G i, o, none⟩ v) (G i) r) :
    OwnsT t A (W.setCell ⟨G i, o, none⟩ v) n G (fun j => if j = i then r else R j) := by
  intro j hj ha
  by_cases e : j = i
  · subst e; simpa using hr
  · simp only [if_neg e]; exact (h j hj ha).other (hinj j hj e)
theorem OwnsT.congr {W : World} {n : Nat} {G : Nat → Nat} {R R' : Nat → List Nat} (h : OwnsT t A W n G R) (e : ∀ j, j < n → R j = R' j) : OwnsT t A W n G R' := fun j hj ha => by rw [← e j hj]; exact h j hj ha
theorem ownT_at {w : World} {g : Nat} {bs : List Nat} (h : OwnT t w g bs) (o : Obj) (j : Nat) (u : Value) (hu : (bs.map B8)[j]? = some u) : (w.alloc o).cell? ((⟨g, 0, none⟩ : Addr).add j) = some u := by
  rw [List.getElem?_map] at hu
  obtain ⟨x, hx, rfl⟩ := Option.map_eq_some_iff.1 hu
  have h2 : OwnT t (w.alloc o) g bs := h.of_block (heap_alloc_old w o h.lt)
  rw [Addr.add_lit, Nat.zero_add]
  exact h2.cell j x hx
end
theorem markT_sum (i l q : Nat) (w : World) (hi : i ≤ 1000000000000) (hk : l + q ≤ 1000000000000000) :
    Calls Try.prog 37 #[.int .i64 i, .int .i64 ((l : Int) + (q : Int))] w fun e w' => e = .returned (.int .u8 ((markOf i (l + q) : Nat) : Int)) ∧ w' = w := by
  have h := mark_any i (l + q) w hi hk
  rw [show ((l + q : Nat) : Int) = (l : Int) + (q : Int) by omega] at h
  exact h
set_option maxRecDepth 100000 in
set_option maxHeartbeats 4000000 in
theorem apart_gen (t : TypeId) (A : Nat → Option Addr) (b off n cap base : Nat) (G L : Nat → Nat) (R : Nat → List Nat) (w : World) (hn : n ≤ 1000000) (hb : b < w.heap.size)
    (hcell : ∀ j, j < n → w.cell? ⟨b, off + j, none⟩ = some (.slice (A j) (L j) (L j))) (hA : ∀ j, j < n → A j = some ⟨G j, 0, none⟩ ∨ A j = none ∧ L j = 0) (hL : ∀ j, j < n → (R j).length = L j) (hlen : ∀ j, j < n → L j ≤ 140737488351300)
    (hO : OwnsT t A w n G R) (hbase : ∀ j, j < n → base ≤ G j) (hle : base ≤ w.heap.size) (hbG : ∀ j, j < n → b ≠ G j) (hinj : ∀ i, i < n → ∀ j, j < n → j ≠ i → G j ≠ G i) :
    Calls Try.prog 13 #[.slice (some ⟨b, off, none⟩) n cap] w fun e w' => e = .returned (.bool true) ∧ Below base w w' := by
  obtain ⟨i0, hi, hz0, hz1, hz2⟩ := info_parts Try.info5
  obtain ⟨i1, hj, hy0, hy1, hy2⟩ := info_parts Try.info22
  have HC := hide hcell
  have HA := hide hA
  clear hA
  have HL := hide hL
  have HLN := hide hlen
  have HBS := hide hbase
  have HBG := hide hbG
  have HIN := hide hinj
  clear hcell hL hlen hbase hbG hinj
  go_enter Try.func13, Try.ntmps13
  go_wp2
  go_loopw [3] (fun i wr => ∃ k : Nat, k ≤ n ∧ i = .int .i64 k ∧ OwnsT t A wr n G (fun j => if j < k then marksOf j (L j) else R j) ∧ Below base w wr ∧ wr.heap[b]? = w.heap[b]? ∧ wr.heap.size = w.heap.size) (fun i _ => n - (intOf i).toNat)
  case atStart => exact ⟨0, by omega, rfl, hO.congr (fun j _ => by simp), Below.refl _ _, rfl, rfl⟩
  case round =>
    clear hO
    obtain ⟨i, hin, rfl, hO1, hB1, hb1, hs1⟩ := hrel
    have HO1 := hide hO1
    have HB1 := hide hB1
    have Hb1 := hide hb1
    have Hs1 := hide hs1
    clear hO1 hB1 hb1 hs1
    by_cases hlt : i < n
    · have hii : (i : Int) < (n : Int) := by omega
      have hLi := HLN.out i hlt
      have HRi : Hid ((R i).length = L i) := HL.out i hlt
      have HCi := hide (HC.out i hlt)
      have HIi := hide (HIN.out i hlt)
      have HBi := hide (HBS.out i hlt)
      have HGi := hide (HBG.out i hlt)
      have HAi := hide (HA.out i hlt)
      generalize hLe : L i = li at HRi HCi hLi HAi
      have HLe := hide hLe
      clear hLe
      go_wp2
      go_loopw [4] (fun k wr => ∃ q : Nat, q ≤ li ∧ k = .int .i64 q ∧ OwnsT t A wr n G (fun j => if j = i then mixed (marksOf i li) (R i) q else if j < i then marksOf j (L j) else R j) ∧ Below base w wr ∧ wr.heap[b]? = w.heap[b]? ∧ wr.heap.size = w.heap.size) (fun k _ => li - (intOf k).toNat)
      case atStart =>
        refine ⟨0, by omega, rfl, HO1.out.congr (fun j _ => ?_), HB1.out, Hb1.out, Hs1.out⟩
        by_cases e : j = i
        · subst e; simp [mixed_zero]
        · simp [e]
      case round =>
        obtain ⟨q, hq, rfl, hO2, hB2, hb2, hs2⟩ := hrel
        have hc : wr.cell? ⟨b, off + i, none⟩ = some (.slice (A i) li li) := (World.cell?_of_block (a := ⟨b, off + i, none⟩) hb2).trans HCi.out
        have HO2 := hide hO2
        have HB2 := hide hB2
        have Hb2 := hide hb2
        have Hs2 := hide hs2
        clear hO2 hB2 hb2 hs2
        by_cases hql : q < li
        · have hqi : (q : Int) < (li : Int) := by omega
          have hAi : A i = some ⟨G i, 0, none⟩ := HAi.out.resolve_right (fun h => by omega)
          have ho : OwnT t wr (G i) (mixed (marksOf i li) (R i) q) := by have h := HO2.out i hlt hAi; simpa using h
          rw [hAi] at hc
          clear hAi
          obtain ⟨x, hx⟩ : ∃ x, (R i)[q]? = some x := ⟨_, List.getElem?_eq_getElem (by rw [HRi.out]; exact hql)⟩
          have hcx := ho.cell q x (by rw [mixed_get _ _ _ (by rw [marksOf_length]; omega)]; exact hx)
          have hf := ho.frozen q
          have HO3 := hide ho
          have hqm : q ≤ 1000000000000000 := by omega
          have him : i ≤ 1000000000000 := by omega
          clear ho hx
          generalize hGe : G i = gi at *
          go_wp2
          go_region_with (go_at_call 37; refine (mark_any i q _ him hqm).mono ?_; rintro e w' ⟨rfl, rfl⟩)
          all_goals
            go_wp2
            go_roundw
            case rel =>
              subst hGe
              refine ⟨q + 1, by omega, by go_num, ?_, (HB2.out.setCell HBi.out _).drew, (block_other HGi.out).trans Hb2.out, ?_⟩
              · have hs := OwnT.set HO3.out q (markOf i q)
                rw [mixed_set _ _ q (markOf i q) (marksOf_get hql) (by rw [HRi.out]; exact hql)] at hs
                exact (OwnsT.step HO2.out hlt HIi.out hs).congr (fun j _ => by by_cases e : j = i <;> simp [e])
              · simpa using Hs2.out
            case measure => simp [intOf]; omega
        · have hqi : (li : Int) ≤ (q : Int) := by omega
          have hqe : q = li := by omega
          have HQ := hide hqe
          clear hqe
          go_wp2
          go_roundw
          case rel =>
            refine ⟨i + 1, by omega, by go_num, HO2.out.congr (fun j _ => ?_), HB2.out, Hb2.out, Hs2.out⟩
            by_cases e : j = i
            · subst e
              rw [if_pos rfl, if_pos (by omega), HQ.out, mixed_all _ _ _ (by rw [marksOf_length]; omega) (by rw [HRi.out]; omega), HLe.out]
            · rw [if_neg e]
              by_cases e2 : j < i
              · rw [if_pos e2, if_pos (by omega)]
              · rw [if_neg e2, if_neg (by omega)]
          case measure => simp [intOf]; omega
    · have hii : (n : Int) ≤ (i : Int) := by omega
      have hie : i = n := by omega
      have HO2 : Hid (OwnsT t A wr n G (fun j => marksOf j (L j))) := HO1.out.congr (fun j hj => by rw [if_pos (by omega)])
      clear HO1 hie HL
      go_wp2
      generalize hw1 : wr = w1 at *
      have HH : Hid (w1.heap.size = w.heap.size) := Hs1
      go_loopw [5, 6] (fun v i wr => ∃ (k : Nat) (cs : List Value), k ≤ n ∧ i = .int .i64 k ∧ cs.length = k ∧ wr.ownsRow w1.heap.size 36 1 v cs.length cs ∧ Ties wr w1.heap.size cs ((List.range k).map fun j => marksOf j (L j + 70)) ∧ Below w1.heap.size w1 wr)
        (fun _ i _ => n - (intOf i).toNat)
      case atStart => exact ⟨0, [], by omega, rfl, rfl, World.ownsRow_nil _ _ _ _, Ties.nil _ _, Below.refl _ _⟩
      case round =>
        obtain ⟨k, cs, hk, rfl, hcs, hown, ht, hB⟩ := hrel
        have HCS := hide hcs
        have HT := hide ht
        have HB := hide hB
        have HO := hide hown
        have hsz := hB.size
        clear hcs ht hB hown
        by_cases hkn : k < n
        · have hki : (k : Int) < (n : Int) := by omega
          have hLk := HLN.out k hkn
          have hbw : b < w1.heap.size := by rw [HH.out]; exact hb
          have hcw : w1.cell? ⟨b, off + k, none⟩ = some (.slice (A k) (L k) (L k)) := (World.cell?_of_block (a := ⟨b, off + k, none⟩) Hb1.out).trans (HC.out k hkn)
          have hcr : wr.cell? ⟨b, off + k, none⟩ = some (.slice (A k) (L k) (L k)) := (HB.out.cell (p := ⟨b, off + k, none⟩) hbw).trans hcw
          have hok : A k = some ⟨G k, 0, none⟩ → OwnT t wr (G k) (marksOf k (L k)) := fun ha => (HO2.out k hkn ha).below HB.out (HO2.out k hkn ha).lt
          have HAk := hide (HA.out k hkn)
          have HOK := hide hok
          have HCR := hide hcr
          clear hcw hok
          generalize hLe : L k = lk at hLk hcr HOK HCR HAk
          have HLe := hide hLe
          clear hLe
          generalize hGe : G k = gk at hcr HOK HCR HAk
          clear hGe
          generalize hAe : A k = ak at hcr HOK HCR HAk
          clear hAe
          go_wp2
          generalize hwo : wr = wo at *
          clear hcr
          go_loopw [7, 8] (fun g x wr => ∃ (q : Nat), q ≤ 70 ∧ x = .int .i64 q ∧ (q = 0 ∧ g = .slice ak lk lk ∨ 0 < q ∧ wr.ownsRow wo.heap.size 5 1 g (lk + q) ((marksOf k (lk + q)).map B8)) ∧ Below wo.heap.size wo wr)
            (fun _ x _ => 70 - (intOf x).toNat)
          case atStart => exact ⟨0, by omega, rfl, .inl ⟨rfl, rfl⟩, Below.refl _ _⟩
          case round =>
            obtain ⟨q, hq, rfl, hg, hB2⟩ := hrel
            have HB2 := hide hB2
            have hsz2 := hB2.size
            have hc2 : wr.cell? ⟨b, off + k, none⟩ = some (.slice ak lk lk) := (hB2.cell (p := ⟨b, off + k, none⟩) (by show b < wo.heap.size; omega)).trans HCR.out
            have HOW : Hid (ak = some ⟨gk, 0, none⟩ → OwnT t wr gk (marksOf k lk)) := fun ha => (HOK.out ha).below hB2 (HOK.out ha).lt
            clear hB2
            by_cases hq70 : q < 70
            · have hqi : (q : Int) < 70 := by omega
              by_cases hq0 : q = 0
              · obtain rfl := (hg.resolve_right (fun h => by omega)).2
                have HQ0 := hide hq0
                clear hq0 hg
                go_wp2_with (first | (go_at_call 37; refine (markT_sum k lk q _ (by omega) (by omega)).mono ?_; rintro e w' ⟨rfl, hw'⟩; replace hw' := hw'.symm; subst hw') | (at_builtin; go_loud (refine wpList_append_grows _ rfl _ _ 36 rfl 5 i0 (.int .u8 0) 1 1 Try.underlying36 hi hz0 hz1 hz2 rfl (by omega) ak lk lk ((marksOf k lk).map B8) rfl (fun h => HAk.out.elim (fun e => by rw [h] at e; cases e) (fun e => ⟨e.2, e.2⟩)) (by simp [marksOf_length]) (fun b' hb' j u hu => HAk.out.elim (fun e => by rw [hb'] at e; cases e; exact ownT_at (HOW.out hb') _ j u hu) (fun e => by rw [hb'] at e; cases e.1)) ⟨wr.heap.size, 0, none⟩ 1 1 [.int .u8 ((markOf k (lk + q) : Nat) : Int)] rfl rfl (cell_one_new _ _ _) (by simp [Value.oneCell']) (by omega) (by unfold maxLen; omega) (by omega) ?_); intro v3 w3 hown3 hgrow3))
                have HO3 := hide hown3
                have HB3 : Hid (Below wo.heap.size wo w3) := (HB2.out.alloc (by omega) _).grown hgrow3 (by simp; omega) (fun j e => by cases e)
                clear hown3 hgrow3
                go_wp2
                go_roundw
                case rel =>
                  refine ⟨q + 1, by omega, by go_num, .inr ⟨by omega, ?_⟩, HB3.out⟩
                  have e := HQ0.out
                  subst e
                  have h := ownsRow_base (base' := wo.heap.size) HO3.out (by simp; omega)
                  rw [marksOf_succ]
                  simpa [B8] using h
                case measure => simp [intOf]; omega
              · have hg2 := (hg.resolve_left (fun h => hq0 h.1)).2
                have HG := hide hg2
                clear hg hg2 hq0
                go_wp2_with (first | (go_at_call 37; refine (markT_sum k lk q _ (by omega) (by omega)).mono ?_; rintro e w' ⟨rfl, hw'⟩; replace hw' := hw'.symm; subst hw') | (at_builtin; refine wpList_append_own _ rfl _ _ 36 rfl wo.heap.size 5 i0 (.int .u8 0) 1 1 Try.underlying36 hi hz0 hz1 hz2 rfl (by omega) _ _ _ rfl (HG.out.alloc _) ⟨wr.heap.size, 0, none⟩ 1 1 [.int .u8 ((markOf k (lk + q) : Nat) : Int)] rfl rfl (cell_one_new _ _ _) (by simp [Value.oneCell']) (by unfold maxLen; omega) (by omega) (by simp; omega) ?_; intro v3 w3 hown3 hgrow3 _))
                have HO3 := hide hown3
                have HB3 : Hid (Below wo.heap.size wo w3) := (HB2.out.alloc (by omega) _).grown hgrow3 (by simp; omega) (fun j e => (HG.out.lt j e).1)
                clear hown3 hgrow3
                go_wp2
                go_roundw
                case rel =>
                  refine ⟨q + 1, by omega, by go_num, .inr ⟨by omega, ?_⟩, HB3.out⟩
                  have h := HO3.out
                  rw [← Nat.add_assoc, marksOf_succ]
                  simpa [B8] using h
                case measure => simp [intOf]; omega
            · have hq7 : q = 70 := by omega
              have hqi : (70 : Int) ≤ (q : Int) := by omega
              have hg2 := (hg.resolve_left (fun h => by omega)).2
              obtain ⟨g3, c3, hg3⟩ := owns_cut hg2 (by omega)
              subst hg3
              have HG := hide hg2
              have HQ7 := hide hq7
              have HOC := hide (ownsRow_below HO.out HB2.out)
              clear hg hg2 hq7 hq70
              have hcsn := HCS.out
              go_wp2_with (at_builtin; refine wpList_append_own _ rfl _ _ 40 rfl w1.heap.size 36 i1 (.slice none 0 0) 1 24 Try.underlying40 hj hy0 hy1 hy2 rfl (by omega) _ _ _ rfl (HOC.out.alloc _) ⟨wr.heap.size, 0, none⟩ 1 1 [.slice (some ⟨g3, 0, none⟩) (lk + q) c3] rfl rfl (cell_one_new _ _ _) (by simp [Value.oneCell']) (by unfold maxLen; omega) (by omega) (by simp; omega) ?_; intro v3 w3 hown3 hgrow3 _)
              have hA : Below wr.heap.size wr (wr.alloc (.cells #[.slice (some ⟨g3, 0, none⟩) (lk + q) c3] 36)) := (Below.refl _ _).alloc (Nat.le_refl _) _
              have hpc : Piece wr w1.heap.size (some ⟨g3, 0, none⟩) (marksOf k (lk + q)) := by
                have h := HG.out
                have e : (marksOf k (lk + q)).length = lk + q := marksOf_length _ _
                have hx := marksOf_lt k (lk + q)
                generalize marksOf k (lk + q) = ms at h e hx ⊢
                rw [← e] at h
                exact piece_of_owns h hx
              have hT2 := ((HT.out.below HB2.out).snoc c3 hpc (by rw [marksOf_length]; unfold maxLen; omega)).below hA
              rw [marksOf_length] at hT2
              have HT3 := hide (hT2.grown (HOC.out.alloc _) hgrow3)
              have HO3 := hide hown3
              have HB3 : Hid (Below w1.heap.size w1 w3) := ((bseq HB.out HB2.out).alloc (by omega) _).grown hgrow3 (by simp; omega) (fun j e => (HOC.out.lt j e).1)
              clear hA hpc hT2 hown3 hgrow3
              go_wp2
              go_roundw
              case rel =>
                refine ⟨k + 1, cs ++ [.slice (some ⟨g3, 0, none⟩) (lk + q) c3], by omega, by go_num, by simp [HCS.out], by simpa using HO3.out, ?_, HB3.out⟩
                have h := HT3.out
                rw [List.range_succ, List.map_append, List.map_singleton, HLe.out]
                rw [HQ7.out] at h ⊢
                exact h
              case measure => simp [intOf]; omega
        · have hki : (n : Int) ≤ (k : Int) := by omega
          have hkn2 : k = n := by omega
          subst hkn2
          obtain ⟨a2, c2, hv2, hs2⟩ := slr_of_owns HO.out HT.out
          rw [List.length_map, List.length_range] at hv2
          subst hv2
          have HS2 := hide hs2
          have HOG : Hid (OwnsT t A wr k G (fun j => marksOf j (L j))) := fun j hj ha => (HO2.out j hj ha).below HB.out (HO2.out j hj ha).lt
          have hbw : b < w1.heap.size := by rw [HH.out]; exact hb
          have HCR : Hid (∀ j, j < k → wr.cell? ⟨b, off + j, none⟩ = some (.slice (A j) (L j) (L j))) := fun j hj => (HB.out.cell (p := ⟨b, off + j, none⟩) hbw).trans ((World.cell?_of_block (a := ⟨b, off + j, none⟩) Hb1.out).trans (HC.out j hj))
          have HBE : Hid (Below base w wr) := HB1.out.trans (HB.out.mono (by rw [HH.out]; exact hle))
          clear hs2 HT HO HB HO2 HCS
          go_wp2
          generalize hwo : wr = w2 at *
          go_loopw [9] (fun i wr => ∃ j m : Nat, j ≤ k ∧ i = .int .i64 j ∧ wr = w2.drewN m) (fun i _ => k - (intOf i).toNat)
          case atStart => exact ⟨0, 0, by omega, rfl, rfl⟩
          case round =>
            obtain ⟨j, m, hj2, rfl, hwr⟩ := hrel
            by_cases hjk : j < k
            · have hji : (j : Int) < (k : Int) := by omega
              obtain ⟨b3, o3, rfl, hb3, hs3⟩ : ∃ b off, a2 = some ⟨b, off, none⟩ ∧ b < w2.heap.size ∧ ∀ (i : Nat) (r : List Nat), ((List.range k).map fun j => marksOf j (L j + 70))[i]? = some r → ∃ ai cap, w2.cell? ⟨b, off + i, none⟩ = some (.slice ai r.length cap) ∧ Sl w2 ai r ∧ r.length ≤ maxLen := by
                rcases HS2.out with h | h
                · have := congrArg List.length h; simp at this; omega
                · exact h
              obtain ⟨a4, c4, hc4, hs4, _⟩ := hs3 j (marksOf j (L j + 70)) (by rw [List.getElem?_map, List.getElem?_range hjk]; rfl)
              rw [marksOf_length] at hc4
              have hcl := HCR.out j hjk
              have hol : A j = some ⟨G j, 0, none⟩ → OwnT t w2 (G j) (marksOf j (L j)) := HOG.out j hjk
              have haj := HA.out j hjk
              have hLj := HLN.out j hjk
              generalize hLe : L j = lj at hcl hol hLj hc4 hs4 haj
              clear hLe
              generalize hGe : G j = gj at hcl hol haj
              clear hGe
              generalize hAe : A j = aj at hcl hol haj
              clear hAe
              have HAJ := hide haj
              clear haj
              obtain ⟨b5, o5, rfl, hb5, hs5⟩ : ∃ b off, a4 = some ⟨b, off, none⟩ ∧ b < w2.heap.size ∧ Seg w2 b off (marksOf j (lj + 70)) := by
                rcases hs4 with h | h
                · have := congrArg List.length h; rw [marksOf_length] at this; simp at this
                · exact h
              have HS5 := hide hs5
              have HOL := hide hol
              have HCL := hide hcl
              have HC4 := hide hc4
              have HWR := hide hwr
              have hc4r : wr.cell? ⟨b3, o3 + j, none⟩ = some (.slice (some ⟨b5, o5, none⟩) (lj + 70) c4) := by rw [hwr]; exact hc4
              clear hs3 hs4 hs5 hol hcl hc4 hwr
              go_wp2
              go_loopw [10] (fun x wr => ∃ q m : Nat, q ≤ lj + 70 ∧ x = .int .i64 q ∧ wr = w2.drewN m) (fun x _ => lj + 70 - (intOf x).toNat)
              case atStart => exact ⟨0, m, by omega, rfl, HWR.out⟩
              case round =>
                clear hc4r HWR
                obtain ⟨q, m, hq, rfl, hwr⟩ := hrel
                have hc4r : wr.cell? ⟨b3, o3 + j, none⟩ = some (.slice (some ⟨b5, o5, none⟩) (lj + 70) c4) := by rw [hwr]; exact HC4.out
                have hclr : wr.cell? ⟨b, off + j, none⟩ = some (.slice aj lj lj) := by rw [hwr]; exact HCL.out
                have HWR := hide hwr
                by_cases hql : q < lj + 70
                · have hqi : (q : Int) < (lj : Int) + 70 := by omega
                  have hcm : wr.cell? ⟨b5, o5 + q, none⟩ = some (.int .u8 ((markOf j q : Nat) : Int)) := by rw [hwr]; exact (HS5.out q _ (marksOf_get hql)).1
                  have hne : (((markOf j q : Nat) : Int) != ((markOf j q : Nat) : Int)) = false := by simp
                  have hqm : q ≤ 1000000000000000 := by omega
                  have hjm : j ≤ 1000000000000 := by omega
                  by_cases hq2 : q < lj
                  · have haj : aj = some ⟨gj, 0, none⟩ := HAJ.out.resolve_right (fun h => by omega)
                    have hcg : wr.cell? ⟨gj, q, none⟩ = some (.int .u8 ((markOf j q : Nat) : Int)) := by rw [hwr]; exact (HOL.out haj).cell q _ (marksOf_get hq2)
                    rw [haj] at hclr
                    clear haj
                    have hq3 : (q : Int) < (lj : Int) := by omega
                    have MK := hide (fun W => mark_any j q W hjm hqm)
                    clear hwr
                    generalize markOf j q = mk at *
                    go_wp2
                    go_quiet ((go_at_call 37; refine Calls.quiet_of_same (unhide MK _)))
                    go_wp2
                    go_roundw
                    case rel => exact ⟨q + 1, m + nq, by omega, by go_num, by rw [HWR.out, World.drewN_drewN]⟩
                    case measure => simp [intOf]; omega
                  · have hq3 : decide ((q : Int) < (lj : Int)) = false := decide_eq_false (by omega)
                    have MK := hide (fun W => mark_any j q W hjm hqm)
                    clear hwr
                    generalize markOf j q = mk at *
                    go_wp2
                    go_quiet ((go_at_call 37; refine Calls.quiet_of_same (unhide MK _)))
                    go_wp2
                    go_roundw
                    case rel => exact ⟨q + 1, m + nq, by omega, by go_num, by rw [HWR.out, World.drewN_drewN]⟩
                    case measure => simp [intOf]; omega
                · have hqi : (lj : Int) + 70 ≤ (q : Int) := by omega
                  clear hwr
                  go_wp2
                  go_roundw
                  case rel => exact ⟨j + 1, m, by omega, by go_num, HWR.out⟩
                  case measure => simp [intOf]; omega
            · have hji : (k : Int) ≤ (j : Int) := by omega
              have HWR := hide hwr
              clear hwr
              go_wp2
              go_ret
              refine ⟨rfl, ?_⟩
              rw [HWR.out]
              exact below_drewN HBE.out m

end Go.Proofs.Ytmgeokmgidnneaa
namespace Go.Proofs.Ytmgeokmgidnneaa
open Go.RowKit
set_option linter.unusedVariables false

theorem Gr.drewG {X : Nat → Prop} {a b : World} (h : Gr X a b) (n : Nat) : Gr X a (b.drewN n) := by
  have hb := below_drewN (Below.refl b.heap.size b) n
  exact h.trans (Gr.of_below hb : Gr X b _) (fun i h => .inl h)
set_option maxRecDepth 100000 in
set_option maxHeartbeats 4000000 in
theorem apart_gr (X : Nat → Prop) (t : TypeId) (A : Nat → Option Addr) (b off n cap : Nat) (G L : Nat → Nat) (R : Nat → List Nat) (w : World) (hn : n ≤ 1000000) (hb : b < w.heap.size)
    (hcell : ∀ j, j < n → w.cell? ⟨b, off + j, none⟩ = some (.slice (A j) (L j) (L j))) (hA : ∀ j, j < n → A j = some ⟨G j, 0, none⟩ ∨ A j = none ∧ L j = 0) (hL : ∀ j, j < n → (R j).length = L j) (hlen : ∀ j, j < n → L j ≤ 140737488351300)
    (hO : OwnsT t A w n G R) (hbase : ∀ j, j < n → X (G j)) (hbG : ∀ j, j < n → b ≠ G j) (hinj : ∀ i, i < n → ∀ j, j < n → j ≠ i → G j ≠ G i) :
    Calls Try.prog 13 #[.slice (some ⟨b, off, none⟩) n cap] w fun e w' => e = .returned (.bool true) ∧ Gr X w w' := by
  obtain ⟨i0, hi, hz0, hz1, hz2⟩ := info_parts Try.info5
  obtain ⟨i1, hj, hy0, hy1, hy2⟩ := info_parts Try.info22
  have HC := hide hcell
  have HA := hide hA
  clear hA
  have HL := hide hL
  have HLN := hide hlen
  have HBS := hide hbase
  have HBG := hide hbG
  have HIN := hide hinj
  clear hcell hL hlen hbase hbG hinj
  go_enter Try.func13, Try.ntmps13
  go_wp2
  go_loopw [3] (fun i wr => ∃ k : Nat, k ≤ n ∧ i = .int .i64 k ∧ OwnsT t A wr n G (fun j => if j < k then marksOf j (L j) else R j) ∧ Gr X w wr ∧ wr.heap[b]? = w.heap[b]? ∧ wr.heap.size = w.heap.size) (fun i _ => n - (intOf i).toNat)
  case atStart => exact ⟨0, by omega, rfl, hO.congr (fun j _ => by simp), Gr.refl _ _, rfl, rfl⟩
  case round =>
    clear hO
    obtain ⟨i, hin, rfl, hO1, hB1, hb1, hs1⟩ := hrel
    have HO1 := hide hO1
    have HB1 := hide hB1
    have Hb1 := hide hb1
    have Hs1 := hide hs1
    clear hO1 hB1 hb1 hs1
    by_cases hlt : i < n
    · have hii : (i : Int) < (n : Int) := by omega
      have hLi := HLN.out i hlt
      have HRi : Hid ((R i).length = L i) := HL.out i hlt
      have HCi := hide (HC.out i hlt)
      have HIi := hide (HIN.out i hlt)
      have HBi := hide (HBS.out i hlt)
      have HGi := hide (HBG.out i hlt)
      have HAi := hide (HA.out i hlt)
      generalize hLe : L i = li at HRi HCi hLi HAi
      have HLe := hide hLe
      clear hLe
      go_wp2
      go_loopw [4] (fun k wr => ∃ q : Nat, q ≤ li ∧ k = .int .i64 q ∧ OwnsT t A wr n G (fun j => if j = i then mixed (marksOf i li) (R i) q else if j < i then marksOf j (L j) else R j) ∧ Gr X w wr ∧ wr.heap[b]? = w.heap[b]? ∧ wr.heap.size = w.heap.size) (fun k _ => li - (intOf k).toNat)
      case atStart =>
        refine ⟨0, by omega, rfl, HO1.out.congr (fun j _ => ?_), HB1.out, Hb1.out, Hs1.out⟩
        by_cases e : j = i
        · subst e; simp [mixed_zero]
        · simp [e]
      case round =>
        obtain ⟨q, hq, rfl, hO2, hB2, hb2, hs2⟩ := hrel
        have hc : wr.cell? ⟨b, off + i, none⟩ = some (.slice (A i) li li) := (World.cell?_of_block (a := ⟨b, off + i, none⟩) hb2).trans HCi.out
        have HO2 := hide hO2
        have HB2 := hide hB2
        have Hb2 := hide hb2
        have Hs2 := hide hs2
        clear hO2 hB2 hb2 hs2
        by_cases hql : q < li
        · have hqi : (q : Int) < (li : Int) := by omega
          have hAi : A i = some ⟨G i, 0, none⟩ := HAi.out.resolve_right (fun h => by omega)
          have ho : OwnT t wr (G i) (mixed (marksOf i li) (R i) q) := by have h := HO2.out i hlt hAi; simpa using h
          rw [hAi] at hc
          clear hAi
          obtain ⟨x, hx⟩ : ∃ x, (R i)[q]? = some x := ⟨_, List.getElem?_eq_getElem (by rw [HRi.out]; exact hql)⟩
          have hcx := ho.cell q x (by rw [mixed_get _ _ _ (by rw [marksOf_length]; omega)]; exact hx)
          have hf := ho.frozen q
          have HO3 := hide ho
          have hqm : q ≤ 1000000000000000 := by omega
          have him : i ≤ 1000000000000 := by omega
          clear ho hx
          generalize hGe : G i = gi at *
          go_wp2
          go_region_with (go_at_call 37; refine (mark_any i q _ him hqm).mono ?_; rintro e w' ⟨rfl, rfl⟩)
          all_goals
            go_wp2
            go_roundw
            case rel =>
              subst hGe
              refine ⟨q + 1, by omega, by go_num, ?_, (HB2.out.trans (Gr.set wr (G i) q _ HBi.out : Gr X wr _) (fun i h => .inl h)), (block_other HGi.out).trans Hb2.out, ?_⟩
              · have hs := OwnT.set HO3.out q (markOf i q)
                rw [mixed_set _ _ q (markOf i q) (marksOf_get hql) (by rw [HRi.out]; exact hql)] at hs
                exact (OwnsT.step HO2.out hlt HIi.out hs).congr (fun j _ => by by_cases e : j = i <;> simp [e])
              · simpa using Hs2.out
            case measure => simp [intOf]; omega
        · have hqi : (li : Int) ≤ (q : Int) := by omega
          have hqe : q = li := by omega
          have HQ := hide hqe
          clear hqe
          go_wp2
          go_roundw
          case rel =>
            refine ⟨i + 1, by omega, by go_num, HO2.out.congr (fun j _ => ?_), HB2.out, Hb2.out, Hs2.out⟩
            by_cases e : j = i
            · subst e
              rw [if_pos rfl, if_pos (by omega), HQ.out, mixed_all _ _ _ (by rw [marksOf_length]; omega) (by rw [HRi.out]; omega), HLe.out]
            · rw [if_neg e]
              by_cases e2 : j < i
              · rw [if_pos e2, if_pos (by omega)]
              · rw [if_neg e2, if_neg (by omega)]
          case measure => simp [intOf]; omega
    · have hii : (n : Int) ≤ (i : Int) := by omega
      have hie : i = n := by omega
      have HO2 : Hid (OwnsT t A wr n G (fun j => marksOf j (L j))) := HO1.out.congr (fun j hj => by rw [if_pos (by omega)])
      clear HO1 hie HL
      go_wp2
      generalize hw1 : wr = w1 at *
      have HH : Hid (w1.heap.size = w.heap.size) := Hs1
      go_loopw [5, 6] (fun v i wr => ∃ (k : Nat) (cs : List Value), k ≤ n ∧ i = .int .i64 k ∧ cs.length = k ∧ wr.ownsRow w1.heap.size 36 1 v cs.length cs ∧ Ties wr w1.heap.size cs ((List.range k).map fun j => marksOf j (L j + 70)) ∧ Below w1.heap.size w1 wr)
        (fun _ i _ => n - (intOf i).toNat)
      case atStart => exact ⟨0, [], by omega, rfl, rfl, World.ownsRow_nil _ _ _ _, Ties.nil _ _, Below.refl _ _⟩
      case round =>
        obtain ⟨k, cs, hk, rfl, hcs, hown, ht, hB⟩ := hrel
        have HCS := hide hcs
        have HT := hide ht
        have HB := hide hB
        have HO := hide hown
        have hsz := hB.size
        clear hcs ht hB hown
        by_cases hkn : k < n
        · have hki : (k : Int) < (n : Int) := by omega
          have hLk := HLN.out k hkn
          have hbw : b < w1.heap.size := by rw [HH.out]; exact hb
          have hcw : w1.cell? ⟨b, off + k, none⟩ = some (.slice (A k) (L k) (L k)) := (World.cell?_of_block (a := ⟨b, off + k, none⟩) Hb1.out).trans (HC.out k hkn)
          have hcr : wr.cell? ⟨b, off + k, none⟩ = some (.slice (A k) (L k) (L k)) := (HB.out.cell (p := ⟨b, off + k, none⟩) hbw).trans hcw
          have hok : A k = some ⟨G k, 0, none⟩ → OwnT t wr (G k) (marksOf k (L k)) := fun ha => (HO2.out k hkn ha).below HB.out (HO2.out k hkn ha).lt
          have HAk := hide (HA.out k hkn)
          have HOK := hide hok
          have HCR := hide hcr
          clear hcw hok
          generalize hLe : L k = lk at hLk hcr HOK HCR HAk
          have HLe := hide hLe
          clear hLe
          generalize hGe : G k = gk at hcr HOK HCR HAk
          clear hGe
          generalize hAe : A k = ak at hcr HOK HCR HAk
          clear hAe
          go_wp2
          generalize hwo : wr = wo at *
          clear hcr
          go_loopw [7, 8] (fun g x wr => ∃ (q : Nat), q ≤ 70 ∧ x = .int .i64 q ∧ (q = 0 ∧ g = .slice ak lk lk ∨ 0 < q ∧ wr.ownsRow wo.heap.size 5 1 g (lk + q) ((marksOf k (lk + q)).map B8)) ∧ Below wo.heap.size wo wr)
            (fun _ x _ => 70 - (intOf x).toNat)
          case atStart => exact ⟨0, by omega, rfl, .inl ⟨rfl, rfl⟩, Below.refl _ _⟩
          case round =>
            obtain ⟨q, hq, rfl, hg, hB2⟩ := hrel
            have HB2 := hide hB2
            have hsz2 := hB2.size
            have hc2 : wr.cell? ⟨b, off + k, none⟩ = some (.slice ak lk lk) := (hB2.cell (p := ⟨b, off + k, none⟩) (by show b < wo.heap.size; omega)).trans HCR.out
            have HOW : Hid (ak = some ⟨gk, 0, none⟩ → OwnT t wr gk (marksOf k lk)) := fun ha => (HOK.out ha).below hB2 (HOK.out ha).lt
            clear hB2
            by_cases hq70 : q < 70
            · have hqi : (q : Int) < 70 := by omega
              by_cases hq0 : q = 0
              · obtain rfl := (hg.resolve_right (fun h => by omega)).2
                have HQ0 := hide hq0
                clear hq0 hg
                go_wp2_with (first | (go_at_call 37; refine (markT_sum k lk q _ (by omega) (by omega)).mono ?_; rintro e w' ⟨rfl, hw'⟩; replace hw' := hw'.symm; subst hw') | (at_builtin; go_loud (refine wpList_append_grows _ rfl _ _ 36 rfl 5 i0 (.int .u8 0) 1 1 Try.underlying36 hi hz0 hz1 hz2 rfl (by omega) ak lk lk ((marksOf k lk).map B8) rfl (fun h => HAk.out.elim (fun e => by rw [h] at e; cases e) (fun e => ⟨e.2, e.2⟩)) (by simp [marksOf_length]) (fun b' hb' j u hu => HAk.out.elim (fun e => by rw [hb'] at e; cases e; exact ownT_at (HOW.out hb') _ j u hu) (fun e => by rw [hb'] at e; cases e.1)) ⟨wr.heap.size, 0, none⟩ 1 1 [.int .u8 ((markOf k (lk + q) : Nat) : Int)] rfl rfl (cell_one_new _ _ _) (by simp [Value.oneCell']) (by omega) (by unfold maxLen; omega) (by omega) ?_); intro v3 w3 hown3 hgrow3))
                have HO3 := hide hown3
                have HB3 : Hid (Below wo.heap.size wo w3) := (HB2.out.alloc (by omega) _).grown hgrow3 (by simp; omega) (fun j e => by cases e)
                clear hown3 hgrow3
                go_wp2
                go_roundw
                case rel =>
                  refine ⟨q + 1, by omega, by go_num, .inr ⟨by omega, ?_⟩, HB3.out⟩
                  have e := HQ0.out
                  subst e
                  have h := ownsRow_base (base' := wo.heap.size) HO3.out (by simp; omega)
                  rw [marksOf_succ]
                  simpa [B8] using h
                case measure => simp [intOf]; omega
              · have hg2 := (hg.resolve_left (fun h => hq0 h.1)).2
                have HG := hide hg2
                clear hg hg2 hq0
                go_wp2_with (first | (go_at_call 37; refine (markT_sum k lk q _ (by omega) (by omega)).mono ?_; rintro e w' ⟨rfl, hw'⟩; replace hw' := hw'.symm; subst hw') | (at_builtin; refine wpList_append_own _ rfl _ _ 36 rfl wo.heap.size 5 i0 (.int .u8 0) 1 1 Try.underlying36 hi hz0 hz1 hz2 rfl (by omega) _ _ _ rfl (HG.out.alloc _) ⟨wr.heap.size, 0, none⟩ 1 1 [.int .u8 ((markOf k (lk + q) : Nat) : Int)] rfl rfl (cell_one_new _ _ _) (by simp [Value.oneCell']) (by unfold maxLen; omega) (by omega) (by simp; omega) ?_; intro v3 w3 hown3 hgrow3 _))
                have HO3 := hide hown3
                have HB3 : Hid (Below wo.heap.size wo w3) := (HB2.out.alloc (by omega) _).grown hgrow3 (by simp; omega) (fun j e => (HG.out.lt j e).1)
                clear hown3 hgrow3
                go_wp2
                go_roundw
                case rel =>
                  refine ⟨q + 1, by omega, by go_num, .inr ⟨by omega, ?_⟩, HB3.out⟩
                  have h := HO3.out
                  rw [← Nat.add_assoc, marksOf_succ]
                  simpa [B8] using h
                case measure => simp [intOf]; omega
            · have hq7 : q = 70 := by omega
              have hqi : (70 : Int) ≤ (q : Int) := by omega
              have hg2 := (hg.resolve_left (fun h => by omega)).2
              obtain ⟨g3, c3, hg3⟩ := owns_cut hg2 (by omega)
              subst hg3
              have HG := hide hg2
              have HQ7 := hide hq7
              have HOC := hide (ownsRow_below HO.out HB2.out)
              clear hg hg2 hq7 hq70
              have hcsn := HCS.out
              go_wp2_with (at_builtin; refine wpList_append_own _ rfl _ _ 40 rfl w1.heap.size 36 i1 (.slice none 0 0) 1 24 Try.underlying40 hj hy0 hy1 hy2 rfl (by omega) _ _ _ rfl (HOC.out.alloc _) ⟨wr.heap.size, 0, none⟩ 1 1 [.slice (some ⟨g3, 0, none⟩) (lk + q) c3] rfl rfl (cell_one_new _ _ _) (by simp [Value.oneCell']) (by unfold maxLen; omega) (by omega) (by simp; omega) ?_; intro v3 w3 hown3 hgrow3 _)
              have hA : Below wr.heap.size wr (wr.alloc (.cells #[.slice (some ⟨g3, 0, none⟩) (lk + q) c3] 36)) := (Below.refl _ _).alloc (Nat.le_refl _) _
              have hpc : Piece wr w1.heap.size (some ⟨g3, 0, none⟩) (marksOf k (lk + q)) := by
                have h := HG.out
                have e : (marksOf k (lk + q)).length = lk + q := marksOf_length _ _
                have hx := marksOf_lt k (lk + q)
                generalize marksOf k (lk + q) = ms at h e hx ⊢
                rw [← e] at h
                exact piece_of_owns h hx
              have hT2 := ((HT.out.below HB2.out).snoc c3 hpc (by rw [marksOf_length]; unfold maxLen; omega)).below hA
              rw [marksOf_length] at hT2
              have HT3 := hide (hT2.grown (HOC.out.alloc _) hgrow3)
              have HO3 := hide hown3
              have HB3 : Hid (Below w1.heap.size w1 w3) := ((bseq HB.out HB2.out).alloc (by omega) _).grown hgrow3 (by simp; omega) (fun j e => (HOC.out.lt j e).1)
              clear hA hpc hT2 hown3 hgrow3
              go_wp2
              go_roundw
              case rel =>
                refine ⟨k + 1, cs ++ [.slice (some ⟨g3, 0, none⟩) (lk + q) c3], by omega, by go_num, by simp [HCS.out], by simpa using HO3.out, ?_, HB3.out⟩
                have h := HT3.out
                rw [List.range_succ, List.map_append, List.map_singleton, HLe.out]
                rw [HQ7.out] at h ⊢
                exact h
              case measure => simp [intOf]; omega
        · have hki : (n : Int) ≤ (k : Int) := by omega
          have hkn2 : k = n := by omega
          subst hkn2
          obtain ⟨a2, c2, hv2, hs2⟩ := slr_of_owns HO.out HT.out
          rw [List.length_map, List.length_range] at hv2
          subst hv2
          have HS2 := hide hs2
          have HOG : Hid (OwnsT t A wr k G (fun j => marksOf j (L j))) := fun j hj ha => (HO2.out j hj ha).below HB.out (HO2.out j hj ha).lt
          have hbw : b < w1.heap.size := by rw [HH.out]; exact hb
          have HCR : Hid (∀ j, j < k → wr.cell? ⟨b, off + j, none⟩ = some (.slice (A j) (L j) (L j))) := fun j hj => (HB.out.cell (p := ⟨b, off + j, none⟩) hbw).trans ((World.cell?_of_block (a := ⟨b, off + j, none⟩) Hb1.out).trans (HC.out j hj))
          have HBE : Hid (Gr X w wr) := HB1.out.trans (Gr.of_below HB.out : Gr X w1 wr) (fun i h => .inl h)
          clear hs2 HT HO HB HO2 HCS
          go_wp2
          generalize hwo : wr = w2 at *
          go_loopw [9] (fun i wr => ∃ j m : Nat, j ≤ k ∧ i = .int .i64 j ∧ wr = w2.drewN m) (fun i _ => k - (intOf i).toNat)
          case atStart => exact ⟨0, 0, by omega, rfl, rfl⟩
          case round =>
            obtain ⟨j, m, hj2, rfl, hwr⟩ := hrel
            by_cases hjk : j < k
            · have hji : (j : Int) < (k : Int) := by omega
              obtain ⟨b3, o3, rfl, hb3, hs3⟩ : ∃ b off, a2 = some ⟨b, off, none⟩ ∧ b < w2.heap.size ∧ ∀ (i : Nat) (r : List Nat), ((List.range k).map fun j => marksOf j (L j + 70))[i]? = some r → ∃ ai cap, w2.cell? ⟨b, off + i, none⟩ = some (.slice ai r.length cap) ∧ Sl w2 ai r ∧ r.length ≤ maxLen := by
                rcases HS2.out with h | h
                · have := congrArg List.length h; simp at this; omega
                · exact h
              obtain ⟨a4, c4, hc4, hs4, _⟩ := hs3 j (marksOf j (L j + 70)) (by rw [List.getElem?_map, List.getElem?_range hjk]; rfl)
              rw [marksOf_length] at hc4
              have hcl := HCR.out j hjk
              have hol : A j = some ⟨G j, 0, none⟩ → OwnT t w2 (G j) (marksOf j (L j)) := HOG.out j hjk
              have haj := HA.out j hjk
              have hLj := HLN.out j hjk
              generalize hLe : L j = lj at hcl hol hLj hc4 hs4 haj
              clear hLe
              generalize hGe : G j = gj at hcl hol haj
              clear hGe
              generalize hAe : A j = aj at hcl hol haj
              clear hAe
              have HAJ := hide haj
              clear haj
              obtain ⟨b5, o5, rfl, hb5, hs5⟩ : ∃ b off, a4 = some ⟨b, off, none⟩ ∧ b < w2.heap.size ∧ Seg w2 b off (marksOf j (lj + 70)) := by
                rcases hs4 with h | h
                · have := congrArg List.length h; rw [marksOf_length] at this; simp at this
                · exact h
              have HS5 := hide hs5
              have HOL := hide hol
              have HCL := hide hcl
              have HC4 := hide hc4
              have HWR := hide hwr
              have hc4r : wr.cell? ⟨b3, o3 + j, none⟩ = some (.slice (some ⟨b5, o5, none⟩) (lj + 70) c4) := by rw [hwr]; exact hc4
              clear hs3 hs4 hs5 hol hcl hc4 hwr
              go_wp2
              go_loopw [10] (fun x wr => ∃ q m : Nat, q ≤ lj + 70 ∧ x = .int .i64 q ∧ wr = w2.drewN m) (fun x _ => lj + 70 - (intOf x).toNat)
              case atStart => exact ⟨0, m, by omega, rfl, HWR.out⟩
              case round =>
                clear hc4r HWR
                obtain ⟨q, m, hq, rfl, hwr⟩ := hrel
                have hc4r : wr.cell? ⟨b3, o3 + j, none⟩ = some (.slice (some ⟨b5, o5, none⟩) (lj + 70) c4) := by rw [hwr]; exact HC4.out
                have hclr : wr.cell? ⟨b, off + j, none⟩ = some (.slice aj lj lj) := by rw [hwr]; exact HCL.out
                have HWR := hide hwr
                by_cases hql : q < lj + 70
                · have hqi : (q : Int) < (lj : Int) + 70 := by omega
                  have hcm : wr.cell? ⟨b5, o5 + q, none⟩ = some (.int .u8 ((markOf j q : Nat) : Int)) := by rw [hwr]; exact (HS5.out q _ (marksOf_get hql)).1
                  have hne : (((markOf j q : Nat) : Int) != ((markOf j q : Nat) : Int)) = false := by simp
                  have hqm : q ≤ 1000000000000000 := by omega
                  have hjm : j ≤ 1000000000000 := by omega
                  by_cases hq2 : q < lj
                  · have haj : aj = some ⟨gj, 0, none⟩ := HAJ.out.resolve_right (fun h => by omega)
                    have hcg : wr.cell? ⟨gj, q, none⟩ = some (.int .u8 ((markOf j q : Nat) : Int)) := by rw [hwr]; exact (HOL.out haj).cell q _ (marksOf_get hq2)
                    rw [haj] at hclr
                    clear haj
                    have hq3 : (q : Int) < (lj : Int) := by omega
                    have MK := hide (fun W => mark_any j q W hjm hqm)
                    clear hwr
                    generalize markOf j q = mk at *
                    go_wp2
                    go_quiet ((go_at_call 37; refine Calls.quiet_of_same (unhide MK _)))
                    go_wp2
                    go_roundw
                    case rel => exact ⟨q + 1, m + nq, by omega, by go_num, by rw [HWR.out, World.drewN_drewN]⟩
                    case measure => simp [intOf]; omega
                  · have hq3 : decide ((q : Int) < (lj : Int)) = false := decide_eq_false (by omega)
                    have MK := hide (fun W => mark_any j q W hjm hqm)
                    clear hwr
                    generalize markOf j q = mk at *
                    go_wp2
                    go_quiet ((go_at_call 37; refine Calls.quiet_of_same (unhide MK _)))
                    go_wp2
                    go_roundw
                    case rel => exact ⟨q + 1, m + nq, by omega, by go_num, by rw [HWR.out, World.drewN_drewN]⟩
                    case measure => simp [intOf]; omega
                · have hqi : (lj : Int) + 70 ≤ (q : Int) := by omega
                  clear hwr
                  go_wp2
                  go_roundw
                  case rel => exact ⟨j + 1, m, by omega, by go_num, HWR.out⟩
                  case measure => simp [intOf]; omega
            · have hji : (k : Int) ≤ (j : Int) := by omega
              have HWR := hide hwr
              clear hwr
              go_wp2
              go_ret
              refine ⟨rfl, ?_⟩
              rw [HWR.out]
              exact HBE.out.drewG m

end Go.Proofs.Ytmgeokmgidnneaa
namespace Go.Proofs.Ytmgeokmgidnneaa
open Go.RowKit Go.Shelf
set_option linter.unusedVariables false

theorem wpAnyH_goS2 {P : Program} {ops : Array Oper} {Q : Exit → Act → World → Prop} {md : Region.Mode} {S : World → Prop} {i j : Nat} {o o' : Oper} {fuel : Nat} {listed : Array Bool} {a : Act} {w : World} (hr : Region.ready md ops listed = [i, j]) (ho : ops[i]? = some o) (hw : Region.wanted o (yielded ops a.tmps) = true) (ho' : ops[j]? = some o') (hw' : Region.wanted o' (yielded ops a.tmps) = true)
    (h : ∀ K' : Act → World → Prop, Shut (∀ a w, S w → wpAnyH P md ops Q S fuel (listed.setIfInBounds i true) a w → K' a w) → Oper.wp P o a w K' Q)
    (h' : ∀ K' : Act → World → Prop, Shut (∀ a w, S w → wpAnyH P md ops Q S fuel (listed.setIfInBounds j true) a w → K' a w) → Oper.wp P o' a w K' Q) : wpAnyH P md ops Q S (fuel + 1) listed a w := by
  refine wpAnyH_ready (rs := [i, j]) hr (by simp) (AllReadyH.cons ho (fun K hK => ?_) (AllReadyH.cons ho' (fun K hK => ?_) AllReadyH.nil))
  · rw [if_pos hw]
    exact h K (fun a w hs hq => hK a w hs (fun _ => hq))
  · rw [if_pos hw']
    exact h' K (fun a w hs hq => hK a w hs (fun _ => hq))
/-- No block of a device holds bytes. -/
theorem foot_byte {w : World} {b k : Nat} {L : Lay} {σ : St} {c : Array Value} {f : Nat × Nat} (h : DevL w b L σ) (hk : Foot b L σ k) (hc : w.heap[k]? = some (.cells c 5 f)) : False := by
  rcases hk with rfl | rfl | rfl | rfl | ⟨i, hi, rfl | hr⟩ | ha | hb
  · exact ne_ty hc h.dev (by decide) rfl
  · exact ne_ty hc h.seen (by decide) rfl
  · obtain ⟨es, q, hm⟩ := h.old.block
    exact ne_map hc hm rfl
  · obtain ⟨es, q, hm⟩ := h.flm.block
    exact ne_map hc hm rfl
  · exact ne_ty hc (h.pasts i hi).1 (by decide) rfl
  · obtain ⟨c', hc'⟩ := (h.pasts i hi).row hr
    exact ne_ty hc hc' (by decide) rfl
  · obtain ⟨c', hc'⟩ := h.av_row ha
    exact ne_ty hc hc' (by decide) rfl
  · obtain ⟨c', hc'⟩ := h.kbt k hb
    exact ne_ty hc hc' (by decide) rfl
theorem footP_byte {W : World} {p b k : Nat} {K : Kl} {B : Bk} {c : Array Value} {f : Nat × Nat} (h : PlL W p b K B) (hk : FootP p K B k) (hc : W.heap[k]? = some (.cells c 5 f)) : False := by
  rcases hk with rfl | ⟨q, r, hq, hb⟩
  · exact ne_ty hc h.blk (by decide) rfl
  · obtain ⟨c', hc'⟩ := own_type (h.own.row q r hq) hb
    refine ne_ty hc hc' ?_ rfl
    rcases h.own.ty q r hq with e | e | e | e <;> (rw [e]; decide)
/-- The device at b with its book at p, a copy at d. -/
structure Fr (w V : World) (p b d : Nat) (K : Kl) (L L' : Lay) (B : Bk) (σ σ' : St) : Prop where
  pd : Pd w V p b K L B σ
  cp : DevL V d L' σ'
  num : L'.N ≤ σ'.ops
  sep : ∀ k, Foot d L' σ' k → ¬ Foot b L σ k ∧ ¬ FootP p K B k
  new : ∀ k, Foot d L' σ' k → w.heap.size ≤ k
section
variable {w V V' : World} {p b d : Nat} {K : Kl} {L L' : Lay} {B : Bk} {σ σ' : St}
theorem Fr.below (h : Fr w V p b d K L L' B σ σ') (hB : Below V.heap.size V V') : Fr w V' p b d K L L' B σ σ' := ⟨h.pd.below hB, h.cp.below hB, h.num, h.sep, h.new⟩
/-- Bytes outside have changed. -/
theorem Fr.bytes {X : Nat → Prop} (h : Fr w V p b d K L L' B σ σ') (hg : Gr X V V') (hX : ∀ k, X k → ∃ c f, V.heap[k]? = some (.cells c 5 f)) (hn : ∀ k, X k → w.heap.size ≤ k) : Fr w V' p b d K L L' B σ σ' := by
  have h1 : ∀ k, Foot b L σ k → ¬ X k := fun k hk hx => by
    obtain ⟨c, f, hc⟩ := hX k hx
    exact foot_byte h.pd.dev hk hc
  have h2 : ∀ k, Foot d L' σ' k → ¬ X k := fun k hk hx => by
    obtain ⟨c, f, hc⟩ := hX k hx
    exact foot_byte h.cp hk hc
  have h3 : ∀ k, FootP p K B k → ¬ X k := fun k hk hx => by
    obtain ⟨c, f, hc⟩ := hX k hx
    exact footP_byte h.pd.pl hk hc
  refine ⟨⟨h.pd.pl.gr hg h3, h.pd.dev.keep (fun k hk => hg.block (h.pd.dev.foot_is hk) (h1 k hk)), h.pd.num, h.pd.dis, h.pd.fp, h.pd.fd, hg.1.trans h.pd.bel.os, hg.2.1.trans h.pd.bel.tape, hg.2.2.1.trans h.pd.bel.output, Nat.le_trans h.pd.bel.size hg.size, fun k hk => (hg.block (Nat.lt_of_lt_of_le hk h.pd.bel.size) (fun hx => by have := hn k hx; omega)).trans (h.pd.bel.block k hk)⟩, h.cp.keep (fun k hk => hg.block (h.cp.foot_is hk) (h2 k hk)), h.num, h.sep, h.new⟩
/-- A Copy. -/
theorem fr_copy (h : Pd w V p b K L B σ) (st : StepOk B σ) : Calls Try.prog 7 #[.pointer (some ⟨b, 0, none⟩)] V fun e V' => ∃ d L', e = .returned (.pointer (some ⟨d, 0, none⟩)) ∧ Fr w V' p b d K L L' B σ σ ∧ Below V.heap.size V V' := by
  refine (pcopy_any h.dev st.ok st.arms h.num).mono ?_
  rintro e V' ⟨d, L', rfl, q1, q2, q3, q4⟩
  refine ⟨d, L', rfl, ⟨h.below q3, q1, Nat.le_trans q4 h.num, fun k hk => ⟨fun h5 => ?_, fun h5 => ?_⟩, fun k hk => Nat.le_trans h.bel.size (q2 k hk)⟩, q3⟩
  · have := h.dev.foot_is h5; have := q2 k hk; omega
  · have := h.pl.lt h5; have := q2 k hk; omega
/-- A line, loaded. -/
theorem fr_load {r : Nat} (h : Fr w V p b d K L L' B σ σ') (st : StepOk B σ) (hr : r < σ.n) : Calls Try.prog 8 #[.pointer (some ⟨b, 0, none⟩), .int .i64 (64 * (r : Int)), .int .i64 64] V fun e V' => ∃ R, e = .returned (.tuple #[.slice (some ⟨R, 0, none⟩) 64 64, .int .i64 0]) ∧ V.heap.size ≤ R ∧ OwnB V' R (σ.line r) ∧ Below V.heap.size V V' := by
  have k := callsIn_wide.1 (pload_in (at_ := 64 * r) (n := 64) h.pd.dev st.ok st.off (by omega))
  rw [show ((64 * r : Nat) : Int) = 64 * (r : Int) by omega] at k
  exact k
/-- What Contents has told: the first and the last of it. -/
structure ConP (V : World) (bx g0 gl n : Nat) (c0 cl : List Nat) : Prop where
  first : V.cell? ⟨bx, 0, none⟩ = some (.slice (some ⟨g0, 0, none⟩) 64 64)
  last : V.cell? ⟨bx, n - 1, none⟩ = some (.slice (some ⟨gl, 0, none⟩) 64 64)
  o0 : OwnB V g0 c0
  ol : OwnB V gl cl
  ne : 2 ≤ n → g0 ≠ gl
theorem ConP.below {bx g0 gl n : Nat} {c0 cl : List Nat} (h : ConP V bx g0 gl n c0 cl) (hB : Below V.heap.size V V') : ConP V' bx g0 gl n c0 cl :=
  ⟨(hB.cell (World.block_lt_of_cell? _ _ h.first)).trans h.first, (hB.cell (World.block_lt_of_cell? _ _ h.last)).trans h.last, h.o0.below hB h.o0.lt, h.ol.below hB h.ol.lt, h.ne⟩
theorem fr_con {r n : Nat} (h : Fr w V p b d K L L' B σ σ') (st : StepOk B σ) (hr : r < σ.n) (hn : n = (σ.past r ++ [σ.line r]).length) : Calls Try.prog 9 #[.pointer (some ⟨b, 0, none⟩), .int .i64 (r : Int)] V fun e V' => ∃ bx cx g0 gl c0 cl, e = .returned (.slice (some ⟨bx, 0, none⟩) n cx) ∧ n ≤ cx ∧ ConP V' bx g0 gl n c0 cl ∧ c0.length = 64 ∧ cl.length = 64 ∧ V.heap.size ≤ g0 ∧ V.heap.size ≤ gl ∧ Below V.heap.size V V' := by
  refine (pcont_any r h.pd.dev st.ok hr).mono ?_
  rintro e V' ⟨lv, rfl, ⟨vals, h1, ⟨h2, h3⟩, h4⟩, h5⟩
  have hl : ∀ c ∈ σ.past r ++ [σ.line r], c.length = 64 := fun c hc => by
    rcases List.mem_append.1 hc with h | h
    · exact st.ok.clen r c h
    · rw [List.mem_singleton.1 h]; exact line_len st.ok hr
  rw [← hn] at h1 h2
  have hn1 : 1 ≤ n := by rw [hn]; simp
  generalize σ.past r ++ [σ.line r] = cs at *
  obtain ⟨c0, hc0⟩ : ∃ c, cs[0]? = some c := ⟨_, List.getElem?_eq_getElem (by omega)⟩
  obtain ⟨cl, hcl⟩ : ∃ c, cs[n - 1]? = some c := ⟨_, List.getElem?_eq_getElem (by omega)⟩
  obtain ⟨g0, a1, a2, a3⟩ := h4 0 c0 hc0
  obtain ⟨gl, b1, b2, b3⟩ := h4 (n - 1) cl hcl
  rcases h1.2 with ⟨_, e⟩ | ⟨bx, cx, cur, rfl, e1, e2, e3, e4⟩
  · omega
  · have hcell := h1.cells (g := bx) rfl
    refine ⟨bx, cx, g0, gl, c0, cl, rfl, e3, ⟨?_, ?_, a3, b3, fun h2 e => ?_⟩, hl c0 (List.mem_of_getElem? hc0), hl cl (List.mem_of_getElem? hcl), a2, b2, h5⟩
    · exact hcell 0 _ a1
    · have := hcell (n - 1) _ b1
      rwa [Addr.add_mid, Nat.zero_add] at this
    · subst e
      exact h3 0 (n - 1) g0 (by omega) a1 b1
/-- An image. -/
theorem fr_img {m : Nat} (h : Fr w V p b d K L L' B σ σ') (st : StepOk B σ) (hn : σ.n = m) : Calls Try.prog 10 #[.pointer (some ⟨b, 0, none⟩)] V fun e V' => e = .returned (.slice (some ⟨V.heap.size, 0, none⟩) (64 * m) (64 * m)) ∧ OwnB V' V.heap.size σ.bytes ∧ Below V.heap.size V V' := by
  have k := pimg_any h.pd.dev st.ok
  rwa [hn] at k
end
end Go.Proofs.Ytmgeokmgidnneaa
namespace Go.Proofs.Ytmgeokmgidnneaa
open Go.RowKit Go.Shelf
set_option linter.unusedVariables false

/-- The blocks that Apart writes. -/
def among (l : List Nat) (k : Nat) : Prop := k ∈ l
theorem fr_apart {W : World} {ab R1 R2 I1 I2 x0 y0 xl m N : Nat} {l1 l2 b1 b2 c0 d0 cl : List Nat} (hall : W.heap[ab]? = some (.cells #[.slice (some ⟨R1, 0, none⟩) 64 64, .slice (some ⟨R2, 0, none⟩) 64 64, .slice (some ⟨I1, 0, none⟩) (64 * m) (64 * m), .slice (some ⟨I2, 0, none⟩) (64 * m) (64 * m), .slice (some ⟨x0, 0, none⟩) 64 64, .slice (some ⟨y0, 0, none⟩) 64 64, .slice (some ⟨xl, 0, none⟩) 64 64] 36 (0, 0)))
    (hm : m ≤ 4) (hN : N = 6 ∨ N = 7) (o1 : OwnB W R1 l1) (o2 : OwnB W R2 l2) (o3 : OwnB W I1 b1) (o4 : OwnB W I2 b2) (o5 : OwnB W x0 c0) (o6 : OwnB W y0 d0) (o7 : OwnB W xl cl) (e1 : l1.length = 64) (e2 : l2.length = 64) (e3 : b1.length = 64 * m) (e4 : b2.length = 64 * m) (e5 : c0.length = 64) (e6 : d0.length = 64) (e7 : cl.length = 64)
    (hd : ∀ i, i < N → ∀ j, j < N → j ≠ i → [R1, R2, I1, I2, x0, y0, xl].getD j 0 ≠ [R1, R2, I1, I2, x0, y0, xl].getD i 0) :
    Calls Try.prog 13 #[.slice (some ⟨ab, 0, none⟩) N 7] W fun e w' => e = .returned (.bool true) ∧ Gr (among [R1, R2, I1, I2, x0, y0, xl]) W w' := by
  have hc : ∀ j, j < 7 → W.cell? ⟨ab, 0 + j, none⟩ = some (.slice (some ⟨[R1, R2, I1, I2, x0, y0, xl].getD j 0, 0, none⟩) ([64, 64, 64 * m, 64 * m, 64, 64, 64].getD j 0) ([64, 64, 64 * m, 64 * m, 64, 64, 64].getD j 0)) := fun j hj => by
    rw [Nat.zero_add]
    refine (cell8 hall j).trans ?_
    match j, hj with
    | 0, _ => rfl
    | 1, _ => rfl
    | 2, _ => rfl
    | 3, _ => rfl
    | 4, _ => rfl
    | 5, _ => rfl
    | 6, _ => rfl
  have hO : ∀ j, j < 7 → OwnB W ([R1, R2, I1, I2, x0, y0, xl].getD j 0) ([l1, l2, b1, b2, c0, d0, cl].getD j []) ∧ ([l1, l2, b1, b2, c0, d0, cl].getD j []).length = [64, 64, 64 * m, 64 * m, 64, 64, 64].getD j 0 ∧ [64, 64, 64 * m, 64 * m, 64, 64, 64].getD j 0 ≤ 256 := fun j hj => by
    match j, hj with
    | 0, _ => exact ⟨o1, e1, by show 64 ≤ 256; omega⟩
    | 1, _ => exact ⟨o2, e2, by show 64 ≤ 256; omega⟩
    | 2, _ => exact ⟨o3, e3, by show 64 * m ≤ 256; omega⟩
    | 3, _ => exact ⟨o4, e4, by show 64 * m ≤ 256; omega⟩
    | 4, _ => exact ⟨o5, e5, by show 64 ≤ 256; omega⟩
    | 5, _ => exact ⟨o6, e6, by show 64 ≤ 256; omega⟩
    | 6, _ => exact ⟨o7, e7, by show 64 ≤ 256; omega⟩
  have hX : ∀ j, j < 7 → among [R1, R2, I1, I2, x0, y0, xl] ([R1, R2, I1, I2, x0, y0, xl].getD j 0) := fun j hj => by
    match j, hj with
    | 0, _ => exact List.mem_of_getElem? (i := 0) rfl
    | 1, _ => exact List.mem_of_getElem? (i := 1) rfl
    | 2, _ => exact List.mem_of_getElem? (i := 2) rfl
    | 3, _ => exact List.mem_of_getElem? (i := 3) rfl
    | 4, _ => exact List.mem_of_getElem? (i := 4) rfl
    | 5, _ => exact List.mem_of_getElem? (i := 5) rfl
    | 6, _ => exact List.mem_of_getElem? (i := 6) rfl
  have hN7 : N ≤ 7 := by omega
  refine apart_gr (among [R1, R2, I1, I2, x0, y0, xl]) 5 (fun j => some ⟨[R1, R2, I1, I2, x0, y0, xl].getD j 0, 0, none⟩) ab 0 N 7 (fun j => [R1, R2, I1, I2, x0, y0, xl].getD j 0) (fun j => [64, 64, 64 * m, 64 * m, 64, 64, 64].getD j 0) (fun j => [l1, l2, b1, b2, c0, d0, cl].getD j []) W (by omega) (lt_of_heap hall) (fun j hj => hc j (by omega)) (fun j hj => .inl rfl) (fun j hj => (hO j (by omega)).2.1) (fun j hj => ?_) (fun j hj _ => (hO j (by omega)).1) (fun j hj => hX j (by omega)) (fun j hj => ?_) hd
  · have := (hO j (by omega)).2.2
    show [64, 64, 64 * m, 64 * m, 64, 64, 64].getD j 0 ≤ _
    omega
  · exact ne_ty hall (hO j (by omega)).1 (by decide)
/-- What a Store8 leaves. -/
theorem st8_does {σ : St} (hok : σ.Ok) {at_ v : Nat} (hat : at_ % 8 = 0) (hlen : at_ + 8 ≤ 64 * σ.n) (hops : σ.ops + 600000 ≤ 1400000000000) : (wordsOf at_ 8).length = 1 ∧ Like σ (writeDo (leB 8 v) at_ σ (wordsOf at_ 8)) 1 ∧ (writeDo (leB 8 v) at_ σ (wordsOf at_ 8)).bytes = splice σ.bytes at_ (leB 8 v) := by
  have hmx := hok.max
  have h1 : (wordsOf at_ 8).length = 1 := by
    rw [wordsOf_eq at_ 8 (by omega)]
    simp
    omega
  have hb : (writeDo (leB 8 v) at_ σ (wordsOf at_ 8)).bytes = splice σ.bytes at_ (leB 8 v) := by
    have := store_bytes (bs := leB 8 v) (at_ := at_) (leB_lt 8 v) hok (by rw [leB_length]; exact hlen) hops
    rwa [leB_length] at this
  have hl := write_like (bs := leB 8 v) (at_ := at_) (leB_lt 8 v) (wordsOf at_ 8) σ hok (fun no hno => by
    rw [wordsOf_eq at_ 8 (by omega)] at hno
    simp at hno
    omega) (by rw [h1]; omega)
  rw [h1] at hl
  exact ⟨h1, hl, hb⟩
section
variable {w V V' : World} {p b d : Nat} {K : Kl} {L L' : Lay} {B : Bk} {σ σ' : St}
theorem Gr.belowF {X : Nat → Prop} (hb : Below w.heap.size w V) (hg : Gr X V V') (hn : ∀ k, X k → w.heap.size ≤ k) : Below w.heap.size w V' :=
  ⟨hg.1.trans hb.os, hg.2.1.trans hb.tape, hg.2.2.1.trans hb.output, Nat.le_trans hb.size hg.size, fun k hk => (hg.block (Nat.lt_of_lt_of_le hk hb.size) (fun hx => by have := hn k hx; omega)).trans (hb.block k hk)⟩
/-- The copy is stored into. -/
theorem fr_st_copy (h : Fr w V p b d K L L' B σ σ) (st : StepOk B σ) (hops : σ.ops + 600000 ≤ 1400000000000) : Calls Try.prog 14 #[.pointer (some ⟨d, 0, none⟩), .int .i64 0, .int .u64 99] V fun e V' => e = .returned (.int .i64 0) ∧ ∃ L2 σ2, Fr w V' p b d K L L2 B σ σ2 ∧ Like σ σ2 1 ∧ σ2.bytes = splice σ.bytes 0 (leB 8 99) ∧ Gr (Foot d L' σ) V V' := by
  have hp := st.ok.pos
  obtain ⟨s1, s2, s3⟩ := st8_does (at_ := 0) (v := 99) st.ok rfl (by omega) hops
  refine (pst8_any (at_ := 0) 99 h.cp st.ok st.off h.num st.arms hops rfl (by omega) (by omega)).mono ?_
  rintro e V' ⟨rfl, L2, q1, q2, q3, q4, q5⟩
  rw [s1] at q4
  have hpl : PlL V' p b K B := h.pd.pl.gr q3 (fun k hk hf => (h.sep k hf).2 hk)
  have hdv : DevL V' b L σ := h.pd.dev.keep (fun k hk => q3.block (h.pd.dev.foot_is hk) (fun hf => (h.sep k hf).1 hk))
  refine ⟨rfl, L2, _, ⟨⟨hpl, hdv, h.pd.num, h.pd.dis, h.pd.fp, h.pd.fd, Gr.belowF h.pd.bel q3 h.new⟩, q1, ?_, fun k hk => ?_, fun k hk => ?_⟩, s2, s3, q3⟩
  · rw [s2.ops]
    have := h.num
    omega
  · rcases q2 k hk with h5 | h5
    · exact h.sep k h5
    · exact ⟨fun h6 => by have := h.pd.dev.foot_is h6; omega, fun h6 => by have := h.pd.pl.lt h6; omega⟩
  · rcases q2 k hk with h5 | h5
    · exact h.new k h5
    · exact Nat.le_trans h.pd.bel.size h5
/-- The device is stored into. -/
theorem fr_st_one (h : Fr w V p b d K L L' B σ σ') (st : StepOk B σ) (hops : σ.ops + 600000 ≤ 1400000000000) : Calls Try.prog 14 #[.pointer (some ⟨b, 0, none⟩), .int .i64 8, .int .u64 77] V fun e V' => e = .returned (.int .i64 0) ∧ ∃ L2 σ2, DevL V' b L2 σ2 ∧ DevL V' d L' σ' ∧ V'.cell? ⟨p, 0, none⟩ = some (.pointer (some ⟨b, 0, none⟩)) ∧ Like σ σ2 1 ∧ σ2.bytes = splice σ.bytes 8 (leB 8 77) ∧ Gr (Foot b L σ) V V' ∧ Below w.heap.size w V' := by
  have hp := st.ok.pos
  obtain ⟨s1, s2, s3⟩ := st8_does (at_ := 8) (v := 77) st.ok rfl (by omega) hops
  refine (pst8_any (at_ := 8) 77 h.pd.dev st.ok st.off h.pd.num st.arms hops rfl (by omega) (by omega)).mono ?_
  rintro e V' ⟨rfl, L2, q1, q2, q3, q4, q5⟩
  have hpl : PlL V' p b K B := h.pd.pl.gr q3 (fun k hk hf => h.pd.dis k hk hf)
  exact ⟨rfl, L2, _, q1, h.cp.keep (fun k hk => q3.block (h.cp.foot_is hk) (fun hf => (h.sep k hk).1 hf)), hpl.c 0, s2, s3, q3, Gr.belowF h.pd.bel q3 h.pd.fd⟩
end
/-- The first and the second word of bytes behind a store. -/
theorem first_of {bs : List Nat} {v : Nat} (hl : 16 ≤ bs.length) : ((splice bs 0 (leB 8 v)).drop (8 * 0)).take 8 = leB 8 v ∧ ((splice bs 0 (leB 8 v)).drop (8 * 1)).take 8 = (bs.drop (8 * 1)).take 8 ∧ ((splice bs 8 (leB 8 v)).drop (8 * 0)).take 8 = (bs.drop (8 * 0)).take 8 ∧ ((splice bs 8 (leB 8 v)).drop (8 * 1)).take 8 = leB 8 v := by
  have h8 := leB_length 8 v
  refine ⟨?_, ?_, ?_, ?_⟩
  · refine List.ext_getElem? fun k => ?_
    rw [List.getElem?_take, List.getElem?_drop, splice_get _ _ _ _ (by omega)]
    by_cases hk : k < 8
    · rw [if_pos hk, if_neg (by omega), if_pos (by omega)]
      congr 1
      omega
    · rw [if_neg hk, List.getElem?_eq_none (by omega)]
  · refine List.ext_getElem? fun k => ?_
    rw [List.getElem?_take, List.getElem?_drop, splice_get _ _ _ _ (by omega), List.getElem?_take, List.getElem?_drop]
    by_cases hk : k < 8
    · rw [if_pos hk, if_neg (by omega), if_neg (by omega), if_pos hk]
    · rw [if_neg hk, if_neg hk]
  · refine List.ext_getElem? fun k => ?_
    rw [List.getElem?_take, List.getElem?_drop, splice_get _ _ _ _ (by omega), List.getElem?_take, List.getElem?_drop]
    by_cases hk : k < 8
    · rw [if_pos hk, if_pos (by omega), if_pos hk]
    · rw [if_neg hk, if_neg hk]
  · refine List.ext_getElem? fun k => ?_
    rw [List.getElem?_take, List.getElem?_drop, splice_get _ _ _ _ (by omega)]
    by_cases hk : k < 8
    · rw [if_pos hk, if_neg (by omega), if_pos (by omega)]
      congr 1
      omega
    · rw [if_neg hk, List.getElem?_eq_none (by omega)]
/-- The number of the eight bytes from a word on. -/
theorem num_any {W : World} {R i nb : Nat} {sb : List Nat} (h : OwnB W R sb) (hb : ∀ x ∈ sb, x < 256) (hl : sb.length = nb) (hi : 8 * i + 8 ≤ nb) : Calls Try.prog 15 #[.slice (some ⟨R, 8 * i, none⟩) (nb - 8 * i) (nb - 8 * i)] W fun e w' => e = .returned (.int .u64 ((leV ((sb.drop (8 * i)).take 8) : Nat) : Int)) ∧ w' = W := by
  refine pnumber (w := W) (g := R) (o := 8 * i) (len := nb - 8 * i) (cap := nb - 8 * i) (ys := (sb.drop (8 * i)).take 8) (by rw [List.length_take, List.length_drop]; omega) (fun x hx => hb x (List.mem_of_mem_drop (List.mem_of_mem_take hx))) (fun j x hx => ?_) (by omega)
  rw [List.getElem?_take] at hx
  split at hx
  · rw [List.getElem?_drop] at hx
    exact h.cell _ _ hx
  · cases hx
theorem seven_apart {a b c d x y z N : Nat} (hab : a < b) (hbx : b < x) (hby : b < y) (hbz : b < z) (hxc : x < c) (hyc : y < c) (hzc : z < c) (hxd : x < d) (hyd : y < d) (hzd : z < d) (hcd : c ≠ d) (hxy : x ≠ y) (hzy : z ≠ y) (hN : N = 6 ∨ N = 7 ∧ x ≠ z) : ∀ i, i < N → ∀ j, j < N → j ≠ i → [a, b, c, d, x, y, z].getD j 0 ≠ [a, b, c, d, x, y, z].getD i 0 := by
  intro i hi j hj hne
  have hi' : i = 0 ∨ i = 1 ∨ i = 2 ∨ i = 3 ∨ i = 4 ∨ i = 5 ∨ i = 6 := by omega
  have hj' : j = 0 ∨ j = 1 ∨ j = 2 ∨ j = 3 ∨ j = 4 ∨ j = 5 ∨ j = 6 := by omega
  rcases hi' with rfl | rfl | rfl | rfl | rfl | rfl | rfl <;> rcases hj' with rfl | rfl | rfl | rfl | rfl | rfl | rfl <;> first | exact absurd rfl hne | (simp only [List.getD_cons_zero, List.getD_cons_succ]; omega)
section
variable {w V : World} {p b d G m : Nat} {K : Kl} {L L' : Lay} {B : Bk} {σ : St}
/-- Both images are what was seen. -/
theorem fr_images (h : Fr w V p b d K L L' B σ σ) (st : StepOk B σ) (hn : σ.n = m) (hm4 : m ≤ 4) (how : OwnB V G σ.bytes) :
    Calls Try.prog 10 #[.pointer (some ⟨b, 0, none⟩)] V fun e VA => e = .returned (.slice (some ⟨V.heap.size, 0, none⟩) (64 * m) (64 * m)) ∧
      Calls Try.prog 11 #[.slice (some ⟨V.heap.size, 0, none⟩) (64 * m) (64 * m), .slice (some ⟨G, 0, none⟩) (64 * m) (64 * m)] VA fun e VB => e = .returned (.bool true) ∧
        Calls Try.prog 10 #[.pointer (some ⟨d, 0, none⟩)] VB fun e VC => e = .returned (.slice (some ⟨VB.heap.size, 0, none⟩) (64 * m) (64 * m)) ∧
          Calls Try.prog 11 #[.slice (some ⟨VB.heap.size, 0, none⟩) (64 * m) (64 * m), .slice (some ⟨G, 0, none⟩) (64 * m) (64 * m)] VC fun e VD => e = .returned (.bool true) ∧ Fr w VD p b d K L L' B σ σ ∧ OwnB VD G σ.bytes := by
  have hbl : σ.bytes.length = 64 * m := by rw [st.ok.len, hn]
  have k1 := pimg_any h.pd.dev st.ok
  rw [hn] at k1
  refine k1.mono ?_
  rintro e VA ⟨rfl, o1, b1⟩
  refine ⟨rfl, ?_⟩
  have ow1 := how.below b1 how.lt
  have ke := eqBytes_any (some ⟨V.heap.size, 0, none⟩) (some ⟨G, 0, none⟩) (64 * m) (64 * m) σ.bytes σ.bytes VA (o1.sl st.ok.byte) (ow1.sl st.ok.byte) (by rw [hbl]; omega)
  rw [hbl, decide_eq_true rfl] at ke
  refine ke.mono ?_
  rintro e VB ⟨rfl, nq, rfl⟩
  refine ⟨rfl, ?_⟩
  have b2 : Below VA.heap.size VA (VA.drewN nq) := below_drewN (Below.refl _ _) nq
  have h2 := (h.below b1).below b2
  have ow2 := ow1.below b2 ow1.lt
  have k2 := pimg_any h2.cp st.ok
  rw [hn] at k2
  refine k2.mono ?_
  rintro e VC ⟨rfl, o3, b3⟩
  refine ⟨rfl, ?_⟩
  have ow3 := ow2.below b3 ow2.lt
  have ke2 := eqBytes_any (some ⟨(VA.drewN nq).heap.size, 0, none⟩) (some ⟨G, 0, none⟩) (64 * m) (64 * m) σ.bytes σ.bytes VC (o3.sl st.ok.byte) (ow3.sl st.ok.byte) (by rw [hbl]; omega)
  rw [hbl, decide_eq_true rfl] at ke2
  refine ke2.mono ?_
  rintro e VD ⟨rfl, nq', rfl⟩
  have b4 : Below VC.heap.size VC (VC.drewN nq') := below_drewN (Below.refl _ _) nq'
  exact ⟨rfl, (h2.below b3).below b4, ow3.below b4 ow3.lt⟩
/-- What lies there behind both stores and both images. -/
structure FrE (w V : World) (p b d G O1 O2 m : Nat) (σ : St) : Prop where
  c0 : V.cell? ⟨p, 0, none⟩ = some (.pointer (some ⟨b, 0, none⟩))
  ops1 : ∀ X, Below V.heap.size V X → Calls Try.prog 16 #[.pointer (some ⟨b, 0, none⟩)] X fun e w' => e = .returned (.int .i64 ((σ.ops + 1 : Nat) : Int)) ∧ w' = X
  ops2 : ∀ X, Below V.heap.size V X → Calls Try.prog 16 #[.pointer (some ⟨d, 0, none⟩)] X fun e w' => e = .returned (.int .i64 ((σ.ops + 1 : Nat) : Int)) ∧ w' = X
  want : OwnB V G σ.bytes
  one : OwnB V O1 (splice σ.bytes 8 (leB 8 77))
  other : OwnB V O2 (splice σ.bytes 0 (leB 8 99))
  bel : Below w.heap.size w V
theorem fr_stores (h : Fr w V p b d K L L' B σ σ) (st : StepOk B σ) (hops : σ.ops + 600000 ≤ 1400000000000) (hn : σ.n = m) (how : OwnB V G σ.bytes) :
    Calls Try.prog 14 #[.pointer (some ⟨d, 0, none⟩), .int .i64 0, .int .u64 99] V fun e VA => e = .returned (.int .i64 0) ∧ VA.cell? ⟨p, 0, none⟩ = some (.pointer (some ⟨b, 0, none⟩)) ∧
      Calls Try.prog 14 #[.pointer (some ⟨b, 0, none⟩), .int .i64 8, .int .u64 77] VA fun e VB => e = .returned (.int .i64 0) ∧ VB.cell? ⟨p, 0, none⟩ = some (.pointer (some ⟨b, 0, none⟩)) ∧
        Calls Try.prog 10 #[.pointer (some ⟨b, 0, none⟩)] VB fun e VC => e = .returned (.slice (some ⟨VB.heap.size, 0, none⟩) (64 * m) (64 * m)) ∧
          Calls Try.prog 10 #[.pointer (some ⟨d, 0, none⟩)] VC fun e VD => e = .returned (.slice (some ⟨VC.heap.size, 0, none⟩) (64 * m) (64 * m)) ∧ FrE w VD p b d G VB.heap.size VC.heap.size m σ := by
  refine (fr_st_copy h st hops).mono ?_
  rintro e VA ⟨rfl, L2, σ2, h2, lk2, by2, g2⟩
  have owA : OwnB VA G σ.bytes := how.of_block (g2.block how.lt (fun hf => foot_byte h.cp hf how))
  refine ⟨rfl, h2.pd.pl.c 0, ?_⟩
  refine (fr_st_one h2 st hops).mono ?_
  rintro e VB ⟨rfl, L3, σ3, dv, cp, c0, lk3, by3, g3, bB⟩
  have owB : OwnB VB G σ.bytes := owA.of_block (g3.block owA.lt (fun hf => foot_byte h2.pd.dev hf owA))
  refine ⟨rfl, c0, ?_⟩
  have k1 := pimg_any dv lk3.ok
  rw [lk3.n, hn, by3] at k1
  refine k1.mono ?_
  rintro e VC ⟨rfl, o1, b1⟩
  refine ⟨rfl, ?_⟩
  have k2 := pimg_any (cp.below b1) lk2.ok
  rw [lk2.n, hn, by2] at k2
  refine k2.mono ?_
  rintro e VD ⟨rfl, o2, b2⟩
  have owC := owB.below b1 owB.lt
  refine ⟨rfl, ⟨((b2.cell (World.block_lt_of_cell? _ _ ((b1.cell (World.block_lt_of_cell? _ _ c0)).trans c0))).trans ((b1.cell (World.block_lt_of_cell? _ _ c0)).trans c0)), fun X hX => ?_, fun X hX => ?_, owC.below b2 owC.lt, o1.below b2 o1.lt, o2, bB.trans ((bseq b1 b2).mono bB.size)⟩⟩
  · have k := pops_any (((dv.below b1).below b2).below hX)
    rwa [lk3.ops] at k
  · have k := pops_any (((cp.below b1).below b2).below hX)
    rwa [lk2.ops] at k
/-- The four numbers. -/
theorem FrE.nums {O1 O2 : Nat} (h : FrE w V p b d G O1 O2 m σ) (st : StepOk B σ) (hn : σ.n = m) (hm : 1 ≤ m) (X : World) (hX : Below V.heap.size V X) :
    (∀ R v, (R = O1 ∧ v = leV (σ.bytes.take 8) ∨ R = G ∧ v = leV (σ.bytes.take 8) ∨ R = O2 ∧ v = 99) → Calls Try.prog 15 #[.slice (some ⟨R, 0, none⟩) (64 * m) (64 * m)] X fun e w' => e = .returned (.int .u64 (v : Int)) ∧ w' = X) ∧
    (∀ R v, (R = O1 ∧ v = 77 ∨ R = G ∧ v = leV ((σ.bytes.drop 8).take 8) ∨ R = O2 ∧ v = leV ((σ.bytes.drop 8).take 8)) → Calls Try.prog 15 #[.slice (some ⟨R, 8, none⟩) (64 * m - 8) (64 * m - 8)] X fun e w' => e = .returned (.int .u64 (v : Int)) ∧ w' = X) := by
  have hbl : σ.bytes.length = 64 * m := by rw [st.ok.len, hn]
  obtain ⟨a1, a2, _, _⟩ := first_of (bs := σ.bytes) (v := 99) (by omega)
  obtain ⟨_, _, a3, a4⟩ := first_of (bs := σ.bytes) (v := 77) (by omega)
  have hb : ∀ v o x, x ∈ splice σ.bytes o (leB 8 v) → x < 256 := fun v o x hx => (splice_mem hx).elim (st.ok.byte x) (leB_lt 8 v x)
  have l1 : (splice σ.bytes 8 (leB 8 77)).length = 64 * m := by rw [length_splice _ _ _ (by rw [leB_length]; omega), hbl]
  have l2 : (splice σ.bytes 0 (leB 8 99)).length = 64 * m := by rw [length_splice _ _ _ (by rw [leB_length]; omega), hbl]
  have w1 := h.one.below hX h.one.lt
  have w2 := h.other.below hX h.other.lt
  have w3 := h.want.below hX h.want.lt
  refine ⟨fun R v hv => ?_, fun R v hv => ?_⟩
  · rcases hv with ⟨rfl, rfl⟩ | ⟨rfl, rfl⟩ | ⟨rfl, rfl⟩
    · have k := num_any (i := 0) w1 (hb 77 8) l1 (by omega)
      rw [a3] at k
      exact k
    · have k := num_any (i := 0) w3 st.ok.byte hbl (by omega)
      exact k
    · have k := num_any (i := 0) w2 (hb 99 0) l2 (by omega)
      rw [a1, leV_of (by omega)] at k
      exact k
  · rcases hv with ⟨rfl, rfl⟩ | ⟨rfl, rfl⟩ | ⟨rfl, rfl⟩
    · have k := num_any (i := 1) w1 (hb 77 8) l1 (by omega)
      rw [a4, leV_of (by omega)] at k
      exact k
    · have k := num_any (i := 1) w3 st.ok.byte hbl (by omega)
      exact k
    · have k := num_any (i := 1) w2 (hb 99 0) l2 (by omega)
      rw [a2] at k
      exact k
/-- What a number is told, wherever draws stand. -/
structure NumP (V : World) (R o l v : Nat) : Prop where
  at_ : ∀ k, Calls Try.prog 15 #[.slice (some ⟨R, o, none⟩) l l] (V.drewN k) fun e w' => e = .returned (.int .u64 (v : Int)) ∧ w' = V.drewN k
structure OpsP (V : World) (b : Nat) (x : Int) : Prop where
  at_ : ∀ k, Calls Try.prog 16 #[.pointer (some ⟨b, 0, none⟩)] (V.drewN k) fun e w' => e = .returned (.int .i64 x) ∧ w' = V.drewN k
theorem FrE.told {O1 O2 : Nat} (h : FrE w V p b d G O1 O2 m σ) (st : StepOk B σ) (hn : σ.n = m) (hm : 1 ≤ m) : ∃ u v : Nat, NumP V O1 0 (64 * m) u ∧ NumP V G 0 (64 * m) u ∧ NumP V O2 0 (64 * m) 99 ∧ NumP V O1 8 (64 * m - 8) 77 ∧ NumP V G 8 (64 * m - 8) v ∧ NumP V O2 8 (64 * m - 8) v ∧ ∃ x, OpsP V b x ∧ OpsP V d x := by
  have hX : ∀ k, Below V.heap.size V (V.drewN k) := fun k => below_drewN (Below.refl _ _) k
  have kn := fun k => h.nums st hn hm (V.drewN k) (hX k)
  exact ⟨_, _, ⟨fun k => (kn k).1 _ _ (.inl ⟨rfl, rfl⟩)⟩, ⟨fun k => (kn k).1 _ _ (.inr (.inl ⟨rfl, rfl⟩))⟩, ⟨fun k => (kn k).1 _ _ (.inr (.inr ⟨rfl, rfl⟩))⟩, ⟨fun k => (kn k).2 _ _ (.inl ⟨rfl, rfl⟩)⟩, ⟨fun k => (kn k).2 _ _ (.inr (.inl ⟨rfl, rfl⟩))⟩, ⟨fun k => (kn k).2 _ _ (.inr (.inr ⟨rfl, rfl⟩))⟩, _, ⟨fun k => h.ops1 _ (hX k)⟩, ⟨fun k => h.ops2 _ (hX k)⟩⟩
end
end Go.Proofs.Ytmgeokmgidnneaa
