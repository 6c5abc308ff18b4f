/- The document's device: From. -/
import Derived.Test.YtmcbkflfopfolaaUgSM
import Derived.Test.YtmcbkflfopfolaaUgAM
import Derived.Test.YtmcbkflfopfolaaPSet
import Derived.Test.YtmcbkflfopfolaaPFrm
namespace Go.Proofs.Ytmcbkflfopfolaa
open Go.RowKit Go.Shelf
set_option linter.unusedVariables false
set_option maxRecDepth 100000

def upB (i : Nat) : List Nat := (List.range i).map (· % 256)
theorem upB_succ (i : Nat) : (upB (i + 1)).map B8 = (upB i).map B8 ++ [.int .u8 ((i % 256 : Nat) : Int)] := by
  unfold upB
  rw [List.range_succ]
  simp [B8]
/-- The bytes of made()'s image, k of them set to 0. -/
def zb (k q : Nat) : Nat := if 128 ≤ q ∧ q < 128 + k then 0 else q % 256
def imgZ (k : Nat) : List Nat := (List.range 1024).map (zb k)
theorem index_byteU (g i len cap : Nat) (hi : i < len) (w : World) : (Instr.indexAt 55 (.slice (some ⟨g, 0, none⟩) len cap) (.int .i64 (i : Int))).run Try.prog w = .ok (.pointer (some ⟨g, i, none⟩)) w := by
  have h := index_at (t := 55) (e := 5) (sz := 1) Try.underlying55 (by kernel_rfl) g 0 i len cap hi w
  rwa [Nat.mul_one, Nat.zero_add] at h
set_option maxHeartbeats 1000000 in
theorem umade_any (z : Nat) (w : World) (hz : 128 ≤ z) (hz6 : z % 64 = 0) (hz8 : z ≤ 896) : Calls Try.prog 18 #[.int .i64 (z : Int)] w fun e w' => ∃ b L gl, e = .returned (.tuple #[.pointer (some ⟨b, 0, none⟩), .pointer (some ⟨gl, 0, none⟩), .bool true]) ∧ DevL w' b L (fromD 16 (imgZ 8)) ∧ L.N = 0 ∧ (∀ k, Foot b L (fromD 16 (imgZ 8)) k → w.heap.size ≤ k) ∧ LogL w' gl b 128 z ∧ Below w.heap.size w w' := by
  obtain ⟨i0, hi0, hz0, hz1, hz2⟩ := infoU8
  go_enter Try.func18, Try.ntmps18
  go_wp2
  go_loopw [5, 6] (fun lv iv wr => ∃ i : Nat, iv = .int .i64 (i : Int) ∧ i ≤ 1024 ∧ wr.ownsRow w.heap.size 5 1 lv i ((upB i).map B8) ∧ Below w.heap.size w wr) (fun lv iv _ => (1024 - (intOf iv).toNat))
  case atStart => exact ⟨0, rfl, Nat.zero_le _, ⟨rfl, .inl ⟨rfl, rfl⟩⟩, Below.refl _ _⟩
  case round =>
    obtain ⟨i, rfl, hi, hown, hB⟩ := hrel
    by_cases hlt : i < 1024
    · have iI : (i : Int) < 1024 := by omega
      have hcv : IntKind.u8.wrap (i : Int) = ((i % 256 : Nat) : Int) := by
        show (i : Int) % 256 = _
        omega
      have hA : Below wr.heap.size wr (wr.alloc (.cells #[.int .u8 ((i % 256 : Nat) : Int)] 5)) := (Below.refl _ wr).alloc (Nat.le_refl _) _
      have ho2 : (wr.alloc (.cells #[.int .u8 ((i % 256 : Nat) : Int)] 5)).ownsRow w.heap.size 5 1 u5 i ((upB i).map B8) := ownsRow_of_block hown (fun g hg => (by obtain ⟨c, hc⟩ := own_type hown hg; exact hA.block g (lt_of_heap hc)))
      have hsz6 : w.heap.size ≤ (wr.alloc (.cells #[.int .u8 ((i % 256 : Nat) : Int)] 5)).heap.size := (bseq hB hA).size
      have HO2 := hide ho2
      have HB := hide (bseq hB hA)
      clear ho2 hown hB hA
      go_wp2_with (at_builtin; refine wpList_append_own_at _ rfl _ _ 55 rfl w.heap.size 5 i0 (.int .u8 0) 1 1 Try.underlying55 hi0 hz0 hz1 hz2 rfl (by decide) u5 i ((upB i).map B8) rfl HO2.out ⟨wr.heap.size, 0, none⟩ 1 1 [.int .u8 ((i % 256 : Nat) : Int)] rfl rfl (cell_oneU wr _ _) (by simp [Value.oneCell']) (by unfold maxLen; omega) (by omega) hsz6 ?_; intro v1 x1 ho3 hg3 hnn hat; clear hnn hat; have HO3 := hide ho3; have HG3 := hide hg3; clear ho3 hg3)
      refine ⟨⟨i + 1, int_congrP (by omega), by omega, by rw [upB_succ]; exact HO3.out, bel_of_grown HB.out HO2.out HG3.out⟩, by simp [intOf]; omega⟩
    · obtain rfl : i = 1024 := by omega
      obtain ⟨g, cp, cur, rfl, hgb, hgr, hcp, hc⟩ : ∃ g cp cur, u5 = .slice (some ⟨g, 0, none⟩) 1024 cp ∧ w.heap.size ≤ g ∧ wr.heap[g]? = some (.cells cur 5 (0, 0)) ∧ 1024 ≤ cp ∧ ∀ q, q < 1024 → cur[q]? = some (B8 (zb 0 q)) := by
        rcases hown.2 with ⟨_, e⟩ | ⟨g, cp, cur, e, h1, h2, h3, h4, h5, h6⟩
        · omega
        · refine ⟨g, cp, cur, e, h1, h2, by omega, fun q hq => ?_⟩
          have h7 : (cur.toList.take (1024 * 1))[q]? = some (B8 (zb 0 q)) := by
            rw [h6]
            unfold upB zb
            rw [List.getElem?_map, List.getElem?_map, List.getElem?_range hq, if_neg (by omega)]
            rfl
          rw [List.getElem?_take, if_pos (by omega), Array.getElem?_toList] at h7
          exact h7
      have HB := hide hB
      have HGR := hide hgr
      have HC := hide hc
      clear hown hB hgr hc hi hlt
      go_wp2
      go_loopw [7] (fun iv wr => ∃ (k : Nat) (c : Array Value), iv = .int .i64 ((128 + k : Nat) : Int) ∧ k ≤ 8 ∧ wr.heap[g]? = some (.cells c 5 (0, 0)) ∧ (∀ q, q < 1024 → c[q]? = some (B8 (zb k q))) ∧ Below w.heap.size w wr) (fun iv _ => (136 - (intOf iv).toNat))
      case atStart => exact ⟨0, cur, rfl, Nat.zero_le _, HGR.out, HC.out, HB.out⟩
      case round =>
        obtain ⟨k, c, rfl, hk, hg2, hc2, hB2⟩ := hrel
        by_cases hlt : k < 8
        · obtain ⟨p, hp⟩ : ∃ p, 128 + k = p := ⟨_, rfl⟩
          rw [hp]
          have pI : (p : Int) < 136 := by omega
          have ib := index_byteU g p 1024 cp (by omega) wr
          have cq : wr.cell? ⟨g, p, none⟩ = some (B8 (zb k p)) := (cell8 hg2 p).trans (hc2 p (by omega))
          have zq := froz8 hg2 p
          have HSET := hide (heap_setCell_same wr g p c 5 (.int .u8 0) hg2)
          have HC2 := hide hc2
          have HB2 := hide (hB2.setCell (p := ⟨g, p, none⟩) hgb (.int .u8 0))
          have HPK := hide hp
          clear hg2 hc2 hB2 hp
          go_wp2
          refine ⟨⟨k + 1, _, int_congrP (by have := HPK.out; omega), by omega, HSET.out, fun q hq => ?_, HB2.out⟩, by simp [intOf]; omega⟩
          have hp := HPK.out
          have h1 := HC2.out p (by omega)
          have h2 : p < c.size := (Array.getElem?_eq_some_iff.1 h1).1
          rw [Array.getElem?_setIfInBounds]
          by_cases e : p = q
          · subst e
            rw [if_pos rfl, if_pos h2]
            unfold zb
            rw [if_pos (by omega)]
            rfl
          · rw [if_neg e, HC2.out q hq]
            unfold zb
            by_cases h3 : 128 ≤ q ∧ q < 128 + k
            · rw [if_pos h3, if_pos (by omega)]
            · rw [if_neg h3, if_neg (by omega)]
        · obtain rfl : k = 8 := by omega
          have hseg : Seg wr g 0 (imgZ 8) := fun i x hx => by
            have hi : i < 1024 := by have := (List.getElem?_eq_some_iff.1 hx).1; simpa [imgZ] using this
            unfold imgZ at hx
            rw [List.getElem?_map, List.getElem?_range hi] at hx
            have hx' : zb 8 i = x := by simpa using hx
            rw [Nat.zero_add]
            refine ⟨(cell8 hg2 i).trans (by rw [hc2 i hi, hx']; rfl), ?_⟩
            rw [← hx']
            unfold zb
            split <;> omega
          have KF := hide (pfrom_any wr g 0 1024 cp 16 (imgZ 8) hseg (lt_of_heap hg2) (by simp [imgZ]) rfl (by omega) (by omega) (fun x hx => by
            unfold imgZ at hx
            obtain ⟨q, _, rfl⟩ := List.mem_map.1 hx
            unfold zb
            split <;> omega) hcp)
          have HB2 := hide hB2
          clear hg2 hc2 hB2 hseg
          go_wp2_with (first
            | (go_at_call 40; refine (KF.out).mono ?_; rintro e W1 ⟨b, L, rfl, hdev, hft, hb, hN⟩; have KO := hide (show Calls Try.prog 14 #[.pointer (some ⟨b, 0, none⟩), .int .i64 128, .int .i64 (z : Int)] W1 fun e w' => e = .returned (.tuple #[.pointer (some ⟨W1.heap.size, 0, none⟩), .int .i64 0]) ∧ LogL w' W1.heap.size b 128 z ∧ Below W1.heap.size W1 w' from lopen_ok (a := 128) hdev (by show 16 ≤ 65536; omega) (by omega) (by omega) hz hz6 (by show 128 + z ≤ 64 * 16; omega)); have HDEV := hide hdev; have HN := hide hN; have HFT := hide (fun k hk => Nat.le_trans HB2.out.size (hft k hk)); have HB3 := hide (bseq HB2.out hb); clear hdev hft hb hN)
            | (go_at_call 14; refine (KO.out).mono ?_; rintro e W2 ⟨rfl, hlog, hb2⟩; have HLOG := hide hlog; have HB4 := hide hb2; clear hlog hb2))
          first | go_ret3 | go_ret2 | skip
          exact ⟨b, L, _, rfl, HDEV.out.below HB4.out, HN.out, HFT.out, HLOG.out, bseq HB3.out HB4.out⟩
end Go.Proofs.Ytmcbkflfopfolaa
namespace Go.Proofs.Ytmcbkflfopfolaa
open Go.RowKit Go.Shelf
set_option linter.unusedVariables false
set_option maxRecDepth 100000

theorem splice_at {B c : List Nat} {at_ : Nat} (h : at_ + c.length ≤ B.length) : ((splice B at_ c).drop at_).take c.length = c := by
  refine List.ext_getElem? fun i => ?_
  rw [List.getElem?_take]
  split
  · rw [List.getElem?_drop, splice_get _ _ _ _ h, if_neg (by omega), if_pos (by omega)]
    congr 1
    omega
  · rw [List.getElem?_eq_none (by omega)]
/-- The records of extents. -/
def recL (B : List Nat) (xs : List (Int × Int)) : List (Nat × List Nat) := xs.map (fun x => (x.1.toNat, oldOf B x))
theorem recL_len (B : List Nat) (xs : List (Int × Int)) : (recL B xs).length = xs.length := by simp [recL]
theorem may_of_fine {a z N : Nat} {x : Int × Int} (h : Fine a z N x) : mayV a z N x.1 x.2 = true := by
  obtain ⟨h1, h2, h3, h4⟩ := h
  unfold mayV wthV
  rcases h4 with h4 | h4
  · rw [decide_eq_true (show 64 ≤ x.1 ∧ 1 ≤ x.2 ∧ x.2 ≤ (a : Int) - x.1 by omega)]
    rfl
  · rw [decide_eq_true (show ((a + z : Nat) : Int) ≤ x.1 ∧ 1 ≤ x.2 ∧ x.2 ≤ ((64 * N : Nat) : Int) - x.1 by omega)]
    exact Bool.or_true _
theorem recs_at {a z N : Nat} {B C : List Nat} (hB : B.length = 64 * N) (hN : N ≤ 65536) : ∀ (xs : List (Int × Int)) (at_ : Nat), (∀ x ∈ xs, Fine a z N x) → (C.drop at_).take (recsB B xs).length = recsB B xs → at_ + (recsB B xs).length ≤ a + z → RecsAt a z N C at_ (recL B xs)
  | [], at_, _, _, _ => trivial
  | x :: t, at_, hx, hc, hl => by
    have e : recsB B (x :: t) = recOf B x ++ recsB B t := rfl
    rw [e, List.length_append] at hc hl
    have hf := hx x (by simp)
    have ho := fine_old hf hB
    have hm := may_of_fine hf
    obtain ⟨h1, h2, h3, h4⟩ := hf
    have hc1 : (C.drop at_).take (recOf B x).length = recOf B x := by
      have := congrArg (List.take (recOf B x).length) hc
      rw [List.take_take, Nat.min_eq_left (by omega), List.take_left] at this
      exact this
    have hc2 : (C.drop (at_ + (recOf B x).length)).take (recsB B t).length = recsB B t := by
      have := congrArg (List.drop (recOf B x).length) hc
      rw [List.drop_take, List.drop_left, List.drop_drop, Nat.add_sub_cancel_left] at this
      exact this
    have e1 : ((x.1.toNat : Nat) : Int) = x.1 := by omega
    have e2 : (((oldOf B x).length : Nat) : Int) = x.2 := by rw [ho]; omega
    refine ⟨hc1, by show 1 ≤ (oldOf B x).length; omega, by show x.1.toNat ≤ 4194304; omega, ?_, by show at_ + (recOf B x).length ≤ a + z; omega, recs_at hB hN t _ (fun y hy => hx y (by simp [hy])) hc2 (by show at_ + (recOf B x).length + (recsB B t).length ≤ a + z; omega)⟩
    show mayV a z N ((x.1.toNat : Nat) : Int) (((oldOf B x).length : Nat) : Int) = true
    rw [e1, e2]
    exact hm
theorem RecsAt.out {a z N : Nat} {B C : List Nat} : ∀ (rs : List (Nat × List Nat)) (at_ : Nat), (∀ p n, at_ ≤ p → p + n ≤ a + z → (C.drop p).take n = (B.drop p).take n) → RecsAt a z N B at_ rs → RecsAt a z N C at_ rs
  | [], _, _, _ => trivial
  | r :: t, at_, h, ⟨h1, h2, h3, h4, h5, h6⟩ => ⟨(h at_ _ (Nat.le_refl _) h5).trans h1, h2, h3, h4, h5, RecsAt.out t _ (fun p n hp hn => h p n (by omega) hn) h6⟩
/-- What a Write leaves that all was done. -/
structure WrS (a z N : Nat) (B : List Nat) (xs : List (Int × Int)) (σ s : St) : Prop where
  like : LikeG σ s (wrF B a xs).length
  few : (wrF B a xs).length ≤ 6000000
  bytes : s.bytes = splice (splice B (a + 64) (recsB B xs)) a (leB 8 xs.length)
  num : leV ((s.bytes.drop a).take 8) = xs.length
  recs : RecsAt a z N s.bytes (a + 64) (recL B xs)
theorem wr_after {a z N : Nat} {B : List Nat} {xs : List (Int × Int)} {σ : St} (hσ : σ.Ok) (hN : σ.n = N) (hB : B = σ.bytes) (hx : ∀ y ∈ xs, Fine a z N y) (hroom : (recsB B xs).length ≤ z - 64) (hz : 64 ≤ z) (haz : a + z ≤ 64 * N) (hops : σ.ops + 30000000 ≤ 1400000000000) (hml : xs.length ≤ 4194304) : WrS a z N B xs σ (acts (wrF B a xs) σ) := by
  have hmx := hσ.max
  have hB64 : B.length = 64 * N := by rw [hB, hσ.len, hN]
  obtain ⟨R, hf⟩ := Recs.whole hσ hN hB hx hroom hz haz (by omega)
  have hr := R.like.ops
  have hn := R.like.n
  have r1 := rng_few (at_ := a + 64) (n := (recsB B xs).length) (by omega)
  have p1 := pub_few (v := xs.length) (at_ := a) (by omega)
  have l1 := acts_like (N := N) (rngF (a + 64) (recsB B xs).length) (acts (recsF B (a + 64) xs) σ) (rng_good _ _) R.like.ok (hn.trans hN) (by omega)
  have b1 := rng_bytes (a + 64) (recsB B xs).length (acts (recsF B (a + 64) xs) σ)
  have o1 := l1.ops
  have n1 := l1.n
  have l2 := acts_like (N := N) (pubF xs.length a) (acts (rngF (a + 64) (recsB B xs).length) (acts (recsF B (a + 64) xs) σ)) (pub_good (by omega) (by omega)) l1.ok (n1.trans (hn.trans hN)) (by omega)
  have b2 := pub_bytes (v := xs.length) (at_ := a) l1.ok (by rw [n1, hn, hN]; omega) (by omega)
  have e : acts (wrF B a xs) σ = acts (pubF xs.length a) (acts (rngF (a + 64) (recsB B xs).length) (acts (recsF B (a + 64) xs) σ)) := by
    unfold wrF
    rw [acts_append, acts_append]
  have hbytes : (acts (wrF B a xs) σ).bytes = splice (splice B (a + 64) (recsB B xs)) a (leB 8 xs.length) := by rw [e, b2, b1, R.bytes]
  have hs1 : (splice B (a + 64) (recsB B xs)).length = B.length := splice_len _ _ _ (by omega)
  have h8 : (leB 8 xs.length).length = 8 := leB_length 8 _
  refine ⟨?_, ?_, hbytes, ?_, ?_⟩
  · rw [e]
    unfold wrF
    rw [List.length_append, List.length_append]
    exact like_trans R.like (like_trans l1 l2)
  · unfold wrF
    rw [List.length_append, List.length_append]
    omega
  · rw [hbytes]
    have := splice_at (B := splice B (a + 64) (recsB B xs)) (c := leB 8 xs.length) (at_ := a) (by omega)
    rw [h8] at this
    rw [this]
    exact leV_of (by omega)
  · refine recs_at hB64 (by omega) xs _ hx ?_ (by omega)
    rw [hbytes, splice_out (by omega) (by omega)]
    exact splice_at (by omega)
/-- What is brought back, from behind. -/
def rolS (rs : List (Nat × List Nat)) (B : List Nat) : List Nat := rs.foldl (fun C r => splice C r.1 r.2) B
theorem bck_like {N : Nat} {r : Nat × List Nat} {σ : St} (hN : N ≤ 65536) (h : Bk1 N r) (hok : σ.Ok) (hn : σ.n = N) (hops : σ.ops + 20000000 ≤ 1400000000000) : LikeG σ (acts (bckF r.1 r.2) σ) (bckF r.1 r.2).length ∧ (acts (bckF r.1 r.2) σ).bytes = splice σ.bytes r.1 r.2 ∧ (bckF r.1 r.2).length ≤ 2 * (recB r.1 r.2).length := by
  obtain ⟨h1, h2, h3⟩ := h
  have k := bck_le (xn := r.1) (old := r.2) (by omega)
  have hl := recB_len r.1 r.2
  have hp : padN r.2.length ≤ 8 := by unfold padN; omega
  refine ⟨acts_like (N := N) _ σ ?_ hok hn (by omega), bck_bytes h3 hok (by omega) (by omega), k⟩
  have := rolB_good hN (rs := [r]) (fun q hq => by rw [List.mem_singleton.1 hq]; exact ⟨h1, h2, h3⟩) 1
  simpa [rolB] using this
theorem rol_like {N : Nat} (hN : N ≤ 65536) : ∀ (rs : List (Nat × List Nat)) (σ : St), (∀ r ∈ rs, Bk1 N r) → σ.Ok → σ.n = N → σ.ops + 2 * recsLen rs + 20000000 ≤ 1400000000000 → LikeG σ (acts (rs.flatMap (fun r => bckF r.1 r.2)) σ) (rs.flatMap (fun r => bckF r.1 r.2)).length ∧ (acts (rs.flatMap (fun r => bckF r.1 r.2)) σ).bytes = rolS rs σ.bytes
  | [], σ, _, hok, _, _ => ⟨like_refl hok, rfl⟩
  | r :: t, σ, h, hok, hn, ho => by
    have e : recsLen (r :: t) = (recB r.1 r.2).length + recsLen t := by simp [recsLen]
    obtain ⟨a1, a2, a3⟩ := bck_like hN (h r (by simp)) hok hn (by omega)
    have a4 := a1.ops
    obtain ⟨b1, b2⟩ := rol_like hN t (acts (bckF r.1 r.2) σ) (fun q hq => h q (by simp [hq])) a1.ok (a1.n.trans hn) (by omega)
    rw [List.flatMap_cons, acts_append, List.length_append]
    exact ⟨like_trans a1 b1, by rw [b2, a2]; rfl⟩
theorem rolS_len : ∀ (rs : List (Nat × List Nat)) (B : List Nat), (∀ r ∈ rs, r.1 + r.2.length ≤ B.length) → (rolS rs B).length = B.length
  | [], B, _ => rfl
  | r :: t, B, h => by
    have e := splice_len B r.2 r.1 (h r (by simp))
    show (rolS t (splice B r.1 r.2)).length = _
    rw [rolS_len t _ (fun q hq => by rw [e]; exact h q (by simp [hq])), e]
/-- What a Rollback leaves that all was done. -/
structure RoS (a : Nat) (rs : List (Nat × List Nat)) (σ s : St) : Prop where
  like : LikeG σ s (rolF a rs).length
  few : (rolF a rs).length ≤ 20000000
  bytes : s.bytes = splice (rolS rs.reverse σ.bytes) a (leB 8 0)
  num : leV ((s.bytes.drop a).take 8) = 0
theorem ro_after {a z N : Nat} {rs : List (Nat × List Nat)} {σ : St} (hσ : σ.Ok) (hN : σ.n = N) (ha : 64 ≤ a) (hz : 64 ≤ z) (haz : a + z ≤ 64 * N) (hrs : RecsAt a z N σ.bytes (a + 64) rs) (hops : σ.ops + 50000000 ≤ 1400000000000) : RoS a rs σ (acts (rolF a rs) σ) := by
  have hmx := hσ.max
  have hbk := RecsAt.each haz ha hσ.byte rs _ hrs
  have htot := RecsAt.total rs _ (by omega) hrs
  have hbr : ∀ r ∈ rs.reverse, Bk1 N r := fun r hr => hbk r (List.mem_reverse.1 hr)
  have hN' : N ≤ 65536 := by omega
  have erl : recsLen rs.reverse = recsLen rs := recsLen_rev rs
  obtain ⟨l0, b0⟩ := rol_like hN' rs.reverse σ hbr hσ hN (by omega)
  have f0 := flat_le hN' rs.reverse hbr
  have o0 := l0.ops
  have n0 := l0.n
  rw [← rolB_all] at l0 b0 f0 o0 n0
  have l1 := acts_like (N := N) [fnA] (acts (rolB rs rs.length) σ) (fun f hf => by rw [List.mem_singleton.1 hf]; exact fn_good) l0.ok (n0.trans hN) (by simp; omega)
  have b1 := fn_bytes (acts (rolB rs rs.length) σ)
  have o1 := l1.ops
  have n1 := l1.n
  have hl1 : ([fnA] : List (St → St)).length = 1 := rfl
  have p1 := pub_few (v := 0) (at_ := a) (by omega)
  have l2 := acts_like (N := N) (pubF 0 a) (acts [fnA] (acts (rolB rs rs.length) σ)) (pub_good (by omega) hN') l1.ok (n1.trans (n0.trans hN)) (by omega)
  have b2 := pub_bytes (v := 0) (at_ := a) l1.ok (by rw [n1, n0, hN]; omega) (by omega)
  have e : acts (rolF a rs) σ = acts (pubF 0 a) (acts [fnA] (acts (rolB rs rs.length) σ)) := by
    unfold rolF
    rw [acts_append, acts_append]
  have hbytes : (acts (rolF a rs) σ).bytes = splice (rolS rs.reverse σ.bytes) a (leB 8 0) := by rw [e, b2, b1, b0]
  have h8 : (leB 8 0).length = 8 := leB_length 8 _
  have hrl : (rolS rs.reverse σ.bytes).length = 64 * N := by
    rw [rolS_len _ _ (fun r hr => by rw [hσ.len, hN]; exact (hbr r hr).2.1), hσ.len, hN]
  refine ⟨?_, ?_, hbytes, ?_⟩
  · rw [e]
    unfold rolF
    rw [List.length_append, List.length_append]
    exact like_trans l0 (like_trans l1 l2)
  · unfold rolF
    rw [List.length_append, List.length_append]
    omega
  · rw [hbytes]
    have := splice_at (B := rolS rs.reverse σ.bytes) (c := leB 8 0) (at_ := a) (by omega)
    rw [h8] at this
    rw [this]
    exact leV_of (by omega)
end Go.Proofs.Ytmcbkflfopfolaa
namespace Go.Proofs.Ytmcbkflfopfolaa
open Go.RowKit Go.Shelf
set_option linter.unusedVariables false
set_option maxRecDepth 100000

/-- A log at block gl on the device at block b, all of whose blocks lie behind B0; no loss waits. -/
structure Lg (B0 : Nat) (w : World) (gl b a z : Nat) (L : Lay) (σ : St) : Prop where
  dv : Dv w b L σ
  log : LogL w gl b a z
  calm : σ.arms = []
  far : ∀ k, Foot b L σ k → B0 ≤ k
  big : B0 ≤ w.heap.size
/-- What a step keeps: blocks of other types, and all that lay ahead of B0. -/
structure Kp8 (B0 : Nat) (w w' : World) : Prop where
  below : Below B0 w w'
  keep : ∀ (k : Nat) (c : Array Value) (t : TypeId) (f : Nat × Nat), w.heap[k]? = some (.cells c t f) → NDt t → w'.heap[k]? = some (.cells c t f)
section
variable {B0 gl b a z : Nat} {w w' w'' : World} {L : Lay} {σ s : St}
theorem Kp8.of_below (h : Below w.heap.size w w') (hB : B0 ≤ w.heap.size) : Kp8 B0 w w' :=
  ⟨⟨h.os, h.tape, h.output, h.size, fun k hk => h.block k (by omega)⟩, fun k c t f hc _ => (h.block k (lt_of_heap hc)).trans hc⟩
theorem Kp8.trans (h : Kp8 B0 w w') (k : Kp8 B0 w' w'') : Kp8 B0 w w'' :=
  ⟨⟨k.below.os.trans h.below.os, k.below.tape.trans h.below.tape, k.below.output.trans h.below.output, Nat.le_trans h.below.size k.below.size, fun i hi => (k.below.block i hi).trans (h.below.block i hi)⟩, fun i c t f hc ht => k.keep i c t f (h.keep i c t f hc ht) ht⟩
theorem Kp8.size (h : Kp8 B0 w w') : w.heap.size ≤ w'.heap.size := h.below.size
theorem Kp8.of_atd {m : Nat} (ha : Atd w b L σ w' s m) (h : Lg B0 w gl b a z L σ) : Kp8 B0 w w' :=
  ⟨⟨ha.1.1, ha.1.2.1, ha.1.2.2.1, ha.1.2.2.2.1, fun k hk => ha.1.block (by have := h.big; omega) (fun hf => by have := h.far k hf; omega)⟩, fun k c t f hc ht => ha.kept h.dv.dev hc ht⟩
theorem Lg.below (h : Lg B0 w gl b a z L σ) (hB : Below w.heap.size w w') : Lg B0 w' gl b a z L σ := ⟨h.dv.below hB, h.log.below hB, h.calm, h.far, Nat.le_trans h.big hB.size⟩
/-- Which blocks a step may change, and which are the device's then. -/
structure Stp (w : World) (b : Nat) (L : Lay) (σ : St) (w' : World) (L' : Lay) (s : St) : Prop where
  gr : Gr (Foot b L σ) w w'
  ft : ∀ k, Foot b L' s k → Foot b L σ k ∨ w.heap.size ≤ k
theorem Stp.out {k : Nat} {L' : Lay} (h : Stp w b L σ w' L' s) (hk : k < w.heap.size) (hn : ¬ Foot b L σ k) : w'.heap[k]? = w.heap[k]? ∧ ¬ Foot b L' s k :=
  ⟨h.gr.block hk hn, fun hf => (h.ft k hf).elim hn (by omega)⟩
theorem Lg.went {m : Nat} (h : Lg B0 w gl b a z L σ) (ha : Atd w b L σ w' s m) (hl : LikeG σ s m) (hlt : σ.ops + m < 1400000000000) : ∃ L', Lg B0 w' gl b a z L' s ∧ Stp w b L σ w' L' s := by
  obtain ⟨L', hd, hg, hf, hN⟩ := h.dv.went ha hl hlt
  exact ⟨L', ⟨hd, h.log.atd h.dv.dev ha, hl.arms.trans h.calm, fun k hk => (hf k hk).elim (h.far k) (fun hk => Nat.le_trans h.big hk), Nat.le_trans h.big ha.size⟩, hg, hf⟩
/-- Where a log may lie. -/
structure At8 (a z N : Nat) : Prop where
  a8 : a % 8 = 0
  a64 : 64 ≤ a
  z64 : 64 ≤ z
  az : a + z ≤ 64 * N
theorem lg_write {m cap : Nat} {ea : Option Addr} {xs : List (Int × Int)} (h : Lg B0 w gl b a z L σ) (hp : At8 a z σ.n) (hops : σ.ops + 30000000 ≤ 1400000000000) (hnum : leV ((σ.bytes.drop a).take 8) = 0) (he : SlE w ea xs) (hm : xs.length = m) (hm1 : 1 ≤ m) (hml : m ≤ 4194304) (hok : (needX a z σ.n xs).2 = 0) :
    Calls Try.prog 19 #[.pointer (some ⟨gl, 0, none⟩), .slice ea m cap] w fun e w' => e = .returned (.int .i64 0) ∧ ∃ L' s, Lg B0 w' gl b a z L' s ∧ WrS a z σ.n σ.bytes xs σ s ∧ Kp8 B0 w w' ∧ Stp w b L σ w' L' s := by
  have hmx := h.dv.ok.max
  obtain ⟨hfine, hnd, hroom⟩ := need_good h.dv.ok.len hp.a64 hp.z64 hp.az hmx hok
  have W := wr_after h.dv.ok rfl rfl hfine hroom hp.z64 hp.az hops (by omega)
  refine (lwrite_ok h.log h.dv hp.a8 hp.a64 hp.z64 hp.az hops hnum he hm hm1 hml hok).mono ?_
  rintro e w' ⟨c, s, rfl, hr, ha⟩
  obtain ⟨rfl, rfl⟩ := hr.calm h.calm
  have hf := W.few
  obtain ⟨L', hL, hS⟩ := h.went ha W.like (by omega)
  exact ⟨rfl, L', _, hL, W, Kp8.of_atd ha h, hS⟩
theorem lg_rollback (rs : List (Nat × List Nat)) (h : Lg B0 w gl b a z L σ) (hp : At8 a z σ.n) (hops : σ.ops + 50000000 ≤ 1400000000000) (hnum : leV ((σ.bytes.drop a).take 8) = rs.length) (hrs : RecsAt a z σ.n σ.bytes (a + 64) rs) (hk : rs.length ≤ 4194304) (hne : 1 ≤ rs.length) :
    Calls Try.prog 37 #[.pointer (some ⟨gl, 0, none⟩)] w fun e w' => e = .returned (.tuple #[.int .i64 (rs.length : Int), .int .i64 0]) ∧ ∃ L' s, Lg B0 w' gl b a z L' s ∧ RoS a rs σ s ∧ Kp8 B0 w w' ∧ Stp w b L σ w' L' s := by
  have W := ro_after h.dv.ok rfl hp.a64 hp.z64 hp.az hrs hops
  refine (lrollback_any rs h.log h.dv hp.a8 hp.a64 hp.z64 hp.az (by omega) hnum hrs hk hne).mono ?_
  rintro e w' ⟨c, s, rfl, hr, ha⟩
  obtain ⟨rfl, rfl⟩ := hr.calm h.calm
  have hf := W.few
  obtain ⟨L', hL, hS⟩ := h.went ha W.like (by omega)
  exact ⟨rfl, L', _, hL, W, Kp8.of_atd ha h, hS⟩
/-- A store of few bytes. -/
theorem lg_store {ad : Addr} {bs : List Nat} (at_ cap : Nat) (h : Lg B0 w gl b a z L σ) (hops : σ.ops + 30000000 ≤ 1400000000000) (hsl : Sl w (some ad) bs) (hb : ∀ x ∈ bs, x < 256) (hcap : bs.length ≤ cap) (hlen : at_ + bs.length ≤ 64 * σ.n) {c : Array Value} {t : TypeId} {f : Nat × Nat} (had : w.heap[ad.block]? = some (.cells c t f)) (ht : NDt t) :
    Calls Try.prog 36 #[.pointer (some ⟨b, 0, none⟩), .int .i64 (at_ : Int), .slice (some ad) bs.length cap] w fun e w' => e = .returned (.int .i64 0) ∧ ∃ L' s, Lg B0 w' gl b a z L' s ∧ LikeG σ s (wordsOf at_ bs.length).length ∧ s.bytes = splice σ.bytes at_ bs ∧ Kp8 B0 w w' ∧ Stp w b L σ w' L' s := by
  have hmx := h.dv.ok.max
  have hwl := wordsOf_few (at_ := at_) (n := bs.length) (by omega)
  have hl := acts_like (N := σ.n) (wds bs at_ (wordsOf at_ bs.length)) σ (wds_good hb (wordsOf_lt (m := σ.n) (by omega) (by omega))) h.dv.ok rfl (by rw [wds_len]; omega)
  rw [wds_len] at hl
  refine (dv_store at_ cap h.dv (by omega) hsl hcap hlen (fun ad' e => by cases e; exact ⟨lt_of_heap had, foot_nd h.dv.dev had ht⟩)).mono ?_
  rintro e w' ⟨c, s, rfl, hr, ha⟩
  obtain ⟨rfl, rfl⟩ := hr.calm h.calm
  obtain ⟨L', hL, hS⟩ := h.went ha hl (by omega)
  refine ⟨rfl, L', _, hL, hl, ?_, Kp8.of_atd ha h, hS⟩
  rw [wds_acts, writeG_bytes hb h.dv.ok hlen (by omega)]
/-- Clear. -/
theorem lg_clear (h : Lg B0 w gl b a z L σ) (hp : At8 a z σ.n) (hops : σ.ops + 30000000 ≤ 1400000000000) :
    Calls Try.prog 21 #[.pointer (some ⟨gl, 0, none⟩)] w fun e w' => e = .returned (.int .i64 0) ∧ ∃ L' s, Lg B0 w' gl b a z L' s ∧ LikeG σ s (pubF 0 a).length ∧ leV ((s.bytes.drop a).take 8) = 0 ∧ Kp8 B0 w w' ∧ Stp w b L σ w' L' s := by
  have hmx := h.dv.ok.max
  have h1 := hp.a64
  have h2 := hp.z64
  have h3 := hp.az
  have p1 := pub_few (v := 0) (at_ := a) (by omega)
  have hl := acts_like (N := σ.n) (pubF 0 a) σ (pub_good (by omega) hmx) h.dv.ok rfl (by omega)
  have hb := pub_bytes (v := 0) (at_ := a) h.dv.ok (by omega) (by omega)
  have h8 : (leB 8 0).length = 8 := leB_length 8 _
  refine (lclear_any h.log h.dv (by omega) hp.a8 (by omega)).mono ?_
  rintro e w' ⟨c, s, rfl, hr, ha⟩
  obtain ⟨rfl, rfl⟩ := hr.calm h.calm
  obtain ⟨L', hL, hS⟩ := h.went ha hl (by omega)
  refine ⟨rfl, L', _, hL, hl, ?_, Kp8.of_atd ha h, hS⟩
  have := splice_at (B := σ.bytes) (c := leB 8 0) (at_ := a) (by rw [h.dv.ok.len]; omega)
  rw [h8] at this
  rw [hb, this]
  exact leV_of (by omega)
end
end Go.Proofs.Ytmcbkflfopfolaa
namespace Go.Proofs.Ytmcbkflfopfolaa
open Go.RowKit Go.Shelf
set_option linter.unusedVariables false
set_option maxRecDepth 100000

theorem imgZ_len : (imgZ 8).length = 1024 := by simp [imgZ]
theorem imgZ_lt : ∀ x ∈ imgZ 8, x < 256 := by
  intro x hx
  unfold imgZ at hx
  obtain ⟨q, _, rfl⟩ := List.mem_map.1 hx
  unfold zb
  split <;> omega
theorem imgZ_get {q : Nat} (h : q < 1024) : (imgZ 8)[q]? = some (zb 8 q) := by
  unfold imgZ
  rw [List.getElem?_map, List.getElem?_range h]
  rfl
theorem imgZ_num : leV (((imgZ 8).drop 128).take 8) = 0 := by
  have h : ((imgZ 8).drop 128).take 8 = leB 8 0 := by
    refine List.ext_getElem? fun i => ?_
    rw [List.getElem?_take]
    split
    · rw [List.getElem?_drop, imgZ_get (by omega), leB_get 8 0 i (by omega)]
      unfold zb
      rw [if_pos (by omega)]
      simp
    · rw [List.getElem?_eq_none (by rw [leB_length]; omega)]
  rw [h]
  exact leV_of (by omega)
theorem imgZ_olds : ((imgZ 8).drop 64).take 4 = [64, 65, 66, 67] := by
  refine List.ext_getElem? fun i => ?_
  rw [List.getElem?_take]
  split
  · rename_i h
    rw [List.getElem?_drop, imgZ_get (by omega)]
    unfold zb
    rw [if_neg (by omega)]
    match i, h with
    | 0, _ => rfl
    | 1, _ => rfl
    | 2, _ => rfl
    | 3, _ => rfl
  · rw [List.getElem?_eq_none (by simp; omega)]
theorem lg_made {w W : World} {b gl z : Nat} {L : Lay} (hd : DevL W b L (fromD 16 (imgZ 8))) (hN : L.N = 0) (hf : ∀ k, Foot b L (fromD 16 (imgZ 8)) k → w.heap.size ≤ k) (hl : LogL W gl b 128 z) (hB : Below w.heap.size w W) : ∃ σ, Lg w.heap.size W gl b 128 z L σ ∧ σ.n = 16 ∧ σ.ops = 0 ∧ σ.bytes = imgZ 8 :=
  ⟨fromD 16 (imgZ 8), ⟨⟨hd, fromD_ok (by omega) (by omega) imgZ_len imgZ_lt, rfl, by rw [hN]; exact Nat.zero_le _, ⟨.inl rfl, by show 0 < _; omega⟩, Nat.le_refl _⟩, hl, rfl, hf, hB.size⟩, rfl, rfl, rfl⟩
section
variable {B0 gl b : Nat} {W : World} {L : Lay} {σ : St}
theorem aw_write (h : Lg B0 W gl b 128 192 L σ) (hn : σ.n = 16) (ho : σ.ops = 0) (hb : σ.bytes = imgZ 8) :
    Calls Try.prog 19 #[.pointer (some ⟨gl, 0, none⟩), .slice (some ⟨W.heap.size, 0, none⟩) 1 1] (W.alloc (.cells #[.int .i64 64, .int .i64 4] 50)) fun e w' => e = .returned (.int .i64 0) ∧ ∃ L' s, Lg B0 w' gl b 128 192 L' s ∧ s.n = 16 ∧ s.ops ≤ 6000000 ∧ leV ((s.bytes.drop 128).take 8) = 1 ∧ RecsAt 128 192 16 s.bytes 192 [(64, [64, 65, 66, 67])] ∧ Kp8 B0 W w' := by
  have hA : Below W.heap.size W (W.alloc (.cells #[.int .i64 64, .int .i64 4] 50)) := (Below.refl _ W).alloc (Nat.le_refl _) _
  have hm : SlE (W.alloc (.cells #[.int .i64 64, .int .i64 4] 50)) (some ⟨W.heap.size, 0, none⟩) [(64, 4)] := by
    refine ⟨by decide, .inr ⟨W.heap.size, 0, _, rfl, heap_alloc_new _ _, ?_⟩⟩
    intro i x l hi
    match i, hi with
    | 0, hi => simp at hi; obtain ⟨rfl, rfl⟩ := hi; exact ⟨rfl, rfl⟩
    | n + 1, hi => simp at hi
  refine (lg_write (h.below hA) (by rw [hn]; exact ⟨by omega, by omega, by omega, by omega⟩) (by omega) (by rw [hb]; exact imgZ_num) hm rfl (by decide) (by decide) (by rw [hn]; decide)).mono ?_
  rintro e w' ⟨rfl, L', s, hL, hW, hK, _⟩
  have h1 := hW.like.n
  have h2 := hW.like.ops
  have h3 := hW.few
  have h4 := hW.num
  have h5 := hW.recs
  rw [hn, hb] at h5
  refine ⟨rfl, L', s, hL, by omega, by omega, h4, ?_, (Kp8.of_below hA h.big).trans hK⟩
  have e : recL (imgZ 8) [(64, 4)] = [(64, [64, 65, 66, 67])] := by
    show [((64 : Int).toNat, ((imgZ 8).drop 64).take 4)] = _
    rw [imgZ_olds]
    rfl
  rw [e] at h5
  exact h5
theorem aw_store (h : Lg B0 W gl b 128 192 L σ) (hn : σ.n = 16) (ho : σ.ops ≤ 6000000) (h1 : leV ((σ.bytes.drop 128).take 8) = 1) (h2 : RecsAt 128 192 16 σ.bytes 192 [(64, [64, 65, 66, 67])]) :
    Calls Try.prog 36 #[.pointer (some ⟨b, 0, none⟩), .int .i64 64, .slice (some ⟨W.heap.size, 0, none⟩) 4 4] (W.alloc (.cells #[.int .u8 9, .int .u8 9, .int .u8 9, .int .u8 9] 5)) fun e w' => e = .returned (.int .i64 0) ∧ ∃ L' s, Lg B0 w' gl b 128 192 L' s ∧ s.n = 16 ∧ s.ops ≤ 7000000 ∧ leV ((s.bytes.drop 128).take 8) = 1 ∧ RecsAt 128 192 16 s.bytes 192 [(64, [64, 65, 66, 67])] ∧ Kp8 B0 W w' := by
  have hA : Below W.heap.size W (W.alloc (.cells #[.int .u8 9, .int .u8 9, .int .u8 9, .int .u8 9] 5)) := (Below.refl _ W).alloc (Nat.le_refl _) _
  have hO : OwnB (W.alloc (.cells #[.int .u8 9, .int .u8 9, .int .u8 9, .int .u8 9] 5)) W.heap.size [9, 9, 9, 9] := heap_alloc_new _ _
  refine (lg_store (bs := [9, 9, 9, 9]) 64 4 (h.below hA) (by omega) (hO.sl (by decide)) (by decide) (by decide) (by rw [hn]; decide) hO byte_nd).mono ?_
  rintro e w' ⟨rfl, L', s, hL, hl, hb, hK, _⟩
  have hwl := wordsOf_few (at_ := 64) (n := 4) (by omega)
  have e1 := hl.n
  have e2 := hl.ops
  have e3 : ([9, 9, 9, 9] : List Nat).length = 4 := rfl
  rw [e3] at e2
  have hlen : σ.bytes.length = 1024 := by rw [h.dv.ok.len, hn]
  refine ⟨rfl, L', s, hL, by omega, by omega, ?_, ?_, (Kp8.of_below hA h.big).trans hK⟩
  · rw [hb, splice_out (by rw [e3]; omega) (by rw [e3]; omega)]
    exact h1
  · refine RecsAt.out _ _ (fun p n hp hn => ?_) h2
    rw [hb]
    exact splice_out (by rw [e3]; omega) (by rw [e3]; omega)
theorem aw_rollback (h : Lg B0 W gl b 128 192 L σ) (hn : σ.n = 16) (ho : σ.ops ≤ 7000000) (h1 : leV ((σ.bytes.drop 128).take 8) = 1) (h2 : RecsAt 128 192 16 σ.bytes 192 [(64, [64, 65, 66, 67])]) :
    Calls Try.prog 37 #[.pointer (some ⟨gl, 0, none⟩)] W fun e w' => e = .returned (.tuple #[.int .i64 1, .int .i64 0]) ∧ ∃ L' s, Lg B0 w' gl b 128 192 L' s ∧ s.n = 16 ∧ s.ops ≤ 30000000 ∧ leV ((s.bytes.drop 128).take 8) = 0 ∧ (s.bytes.drop 64).take 4 = [64, 65, 66, 67] ∧ Kp8 B0 W w' := by
  refine (lg_rollback [(64, [64, 65, 66, 67])] h (by rw [hn]; exact ⟨by omega, by omega, by omega, by omega⟩) (by omega) h1 (by rw [hn]; exact h2) (by decide) (by decide)).mono ?_
  rintro e w' ⟨rfl, L', s, hL, hW, hK, _⟩
  have e1 := hW.like.n
  have e2 := hW.like.ops
  have e3 := hW.few
  have e4 : ([64, 65, 66, 67] : List Nat).length = 4 := rfl
  have e5 : (leB 8 0).length = 8 := leB_length 8 0
  have hlen : σ.bytes.length = 1024 := by rw [h.dv.ok.len, hn]
  have e6 : (splice σ.bytes 64 [64, 65, 66, 67]).length = 1024 := (splice_len _ _ _ (by rw [e4]; omega)).trans hlen
  refine ⟨rfl, L', s, hL, by omega, by omega, hW.num, ?_, hK⟩
  have e7 : s.bytes = splice (splice σ.bytes 64 [64, 65, 66, 67]) 128 (leB 8 0) := hW.bytes
  rw [e7, splice_out (by omega) (by omega)]
  have := splice_at (B := σ.bytes) (c := [64, 65, 66, 67]) (at_ := 64) (by rw [e4]; omega)
  rw [e4] at this
  exact this
theorem aw_records (h : Lg B0 W gl b 128 192 L σ) (hn : σ.n = 16) (h1 : leV ((σ.bytes.drop 128).take 8) = 1) (h2 : RecsAt 128 192 16 σ.bytes 192 [(64, [64, 65, 66, 67])]) :
    Calls Try.prog 20 #[.pointer (some ⟨gl, 0, none⟩)] W fun e w' => ∃ gr cap cur, e = .returned (.tuple #[.slice (some ⟨gr, 0, none⟩) 1 cap, .int .i64 0]) ∧ w'.heap[gr]? = some (.cells cur 57 (0, 0)) ∧ cur[0]? = some (.int .i64 64) ∧ Below W.heap.size W w' := by
  refine (lrecords_ok [(64, [64, 65, 66, 67])] h.log h.dv (by omega) (by omega) (by rw [hn]; omega) h1 (by rw [hn]; exact h2) (by decide)).mono ?_
  rintro e w' ⟨v, Rs, rfl, hrow, hB⟩
  obtain ⟨gr, cap, cur, rfl, hg, _, hc⟩ := hrow.slice (by decide)
  have hl := hrow.len
  obtain ⟨R, rfl⟩ : ∃ R, Rs = [R] := by
    match Rs, hl with
    | [R], _ => exact ⟨R, rfl⟩
  have := hc 0 ((64, [64, 65, 66, 67]), R) rfl
  exact ⟨gr, cap, cur, rfl, hg, this.1, hB⟩
end
end Go.Proofs.Ytmcbkflfopfolaa
namespace Go.Proofs.Ytmcbkflfopfolaa
open Go.RowKit Go.Shelf
set_option linter.unusedVariables false
set_option maxRecDepth 100000

theorem neq_devN (a : Addr) (w : World) : (binOp .neq 31 (.pointer none) (.pointer (some a))).run Try.prog w = .ok (.bool true) w := by
  have h : ∀ d : Nat, (Op.equalIn (d + 1) 31 (.pointer none) (.pointer (some a))).run Try.prog w = .ok false w := fun d => by
    simp [Op.equalIn, run_underlying (show Try.prog.underlying 31 = some (.pointer 75) by kernel_rfl)]
  simp only [binOp]
  simp [Op.equal, Op.maxDepth, h 9999]
/-- What is no device: nil, or one that no call made. -/
def NoV (w : World) (v : Value) : Prop := v = .pointer none ∨ ∃ g c, v = .pointer (some ⟨g, 0, none⟩) ∧ w.heap[g]? = some (.cells c 75 (0, 0)) ∧ c[0]? = some (.pointer none)
theorem nv_none {w : World} {v : Value} (h : NoV w v) : Calls Try.prog 35 #[v] w fun e w' => e = .returned (.bool true) ∧ w' = w := by
  rcases h with rfl | ⟨g, c, rfl, hg, hc⟩
  · go_enter Try.func35, Try.ntmps35
    go_wp2
    go_ret
    exact ⟨rfl, rfl⟩
  · have c0 : w.cell? ⟨g, 0, none⟩ = some (.pointer none) := (cell8 hg 0).trans hc
    have hq := neq_devN ⟨g, 0, none⟩ w
    clear hg hc
    go_enter Try.func35, Try.ntmps35
    go_wp2
    go_ret
    exact ⟨rfl, rfl⟩
theorem nv_size {w : World} {v : Value} (h : NoV w v) : Calls Try.prog 34 #[v] w fun e w' => e = .returned (.int .i64 0) ∧ w' = w := by
  have KN := hide (nv_none h)
  rcases h with rfl | ⟨g, c, rfl, hg, hc⟩ <;>
  · go_enter Try.func34, Try.ntmps34
    go_wp2_with (go_at_call 35; refine (KN.out).mono ?_; rintro e w' ⟨rfl, hw⟩; obtain rfl := hw.symm)
    go_ret
    exact ⟨rfl, rfl⟩
theorem nv_open {w : World} {v : Value} (h : NoV w v) (a z : Int) : Calls Try.prog 14 #[v, .int .i64 a, .int .i64 z] w fun e w' => e = .returned (.tuple #[.pointer none, .int .i64 1]) ∧ w' = w := by
  have KN := hide (nv_size h)
  rcases h with rfl | ⟨g, c, rfl, hg, hc⟩ <;>
  · go_enter Try.func14, Try.ntmps14
    go_wp2_with (go_at_call 34; refine (KN.out).mono ?_; rintro e w' ⟨rfl, hw⟩; obtain rfl := hw.symm)
    go_ret2
    exact ⟨rfl, rfl⟩
theorem aw_eq {W : World} {R : Nat} (h : OwnB W R [64, 65, 66, 67]) : Calls Try.prog 39 #[.slice (some ⟨R, 0, none⟩) 4 4, .slice (some ⟨W.heap.size, 0, none⟩) 4 4] (W.alloc (.cells #[.int .u8 64, .int .u8 65, .int .u8 66, .int .u8 67] 5)) fun e w' => e = .returned (.bool true) ∧ Below W.heap.size W w' := by
  have hA : Below W.heap.size W (W.alloc (.cells #[.int .u8 64, .int .u8 65, .int .u8 66, .int .u8 67] 5)) := (Below.refl _ W).alloc (Nat.le_refl _) _
  have h1 : OwnB (W.alloc (.cells #[.int .u8 64, .int .u8 65, .int .u8 66, .int .u8 67] 5)) R [64, 65, 66, 67] := h.below hA h.lt
  have h2 : OwnB (W.alloc (.cells #[.int .u8 64, .int .u8 65, .int .u8 66, .int .u8 67] 5)) W.heap.size [64, 65, 66, 67] := heap_alloc_new _ _
  refine (eqBytes_any (some ⟨R, 0, none⟩) (some ⟨W.heap.size, 0, none⟩) 4 4 [64, 65, 66, 67] [64, 65, 66, 67] _ (h1.sl (by decide)) (h2.sl (by decide)) (by decide)).mono ?_
  rintro e w' ⟨rfl, n, rfl⟩
  exact ⟨rfl, below_drewN hA n⟩
set_option maxHeartbeats 2000000 in
theorem uawake_any (w : World) : Calls Try.prog 17 #[] w fun e w' => e = .returned (.bool true) ∧ Below w.heap.size w w' := by
  have KM := hide (umade_any 192 w (by omega) (by omega) (by omega))
  have M1 := hide trivial
  have M2 := hide trivial
  go_enter Try.func17, Try.ntmps17
  go_wp2_with (first
    | (go_at_call 18; refine (KM.out).mono ?_; rintro e W1 ⟨b, L, gl, rfl, hd, hN, hf, hl, hB⟩; obtain ⟨σ, hlg, hn, ho, hby⟩ := lg_made hd hN hf hl hB; have HL := hide hlg; have HP := hide (And.intro hn (And.intro ho hby)); have HB := hide hB; clear hd hN hf hl hlg hn ho hby hB)
    | (go_at_call 19; clear M1; refine (aw_write HL.out HP.out.1 HP.out.2.1 HP.out.2.2).mono ?_; rintro e W2 ⟨rfl, L1, s1, hl1, g1, g2, g3, g4, hk1⟩; have HL1 := hide hl1; have HP1 := hide (And.intro g1 (And.intro g2 (And.intro g3 g4))); have HK1 := hide hk1; clear hl1 g1 g2 g3 g4 hk1)
    | (go_at_call 19; refine (lwrite_state (HL1.out).log (HL1.out).dv (by omega) (by rw [HP1.out.1]; omega) (by rw [HP1.out.2.2.1]; omega)).mono ?_; rintro e W3 ⟨rfl, hb3⟩; have HL2 := hide (HL1.out.below hb3); have HK2 := hide (HK1.out.trans (Kp8.of_below hb3 HL1.out.big)); clear hb3)
    | (go_at_call 36; refine (aw_store HL2.out HP1.out.1 HP1.out.2.1 HP1.out.2.2.1 HP1.out.2.2.2).mono ?_; rintro e W4 ⟨rfl, L3, s3, hl3, g1, g2, g3, g4, hk3⟩; have HL3 := hide hl3; have HP3 := hide (And.intro g1 (And.intro g2 (And.intro g3 g4))); have HK3 := hide (HK2.out.trans hk3); clear hl3 g1 g2 g3 g4 hk3)
    | (go_at_call 20; refine (aw_records HL3.out HP3.out.1 HP3.out.2.2.1 HP3.out.2.2.2).mono ?_; rintro e W5 ⟨gr, cap, cur, rfl, hgr, hcur, hb5⟩; have HL4 := hide (HL3.out.below hb5); have HK4 := hide (HK3.out.trans (Kp8.of_below hb5 HL3.out.big)); have HR := hide hgr; have HC := hide hcur; clear hb5 hgr hcur)
    | (go_at_call 37; clear M2; refine (aw_rollback HL4.out HP3.out.1 HP3.out.2.1 HP3.out.2.2.1 HP3.out.2.2.2).mono ?_; rintro e W6 ⟨rfl, L5, s5, hl5, g1, g2, g3, g4, hk5⟩; have HL5 := hide hl5; have HP5 := hide (And.intro g1 (And.intro g2 (And.intro g3 g4))); have HK5 := hide (HK4.out.trans hk5); have HR5 := hide (hk5.keep _ _ _ _ HR.out rec_nd); clear hl5 g1 g2 g3 g4 hk5)
    | (go_at_call 38; refine (dv_load (at_ := 64) (n := 4) (HL5.out).dv (by rw [HP5.out.1]; omega)).mono ?_; rintro e W7 ⟨R, rfl, hR, hO, hb7⟩; rw [HP5.out.2.2.2] at hO; have HL6 := hide (HL5.out.below hb7); have HK6 := hide (HK5.out.trans (Kp8.of_below hb7 HL5.out.big)); have HR6 := hide ((hb7.block _ (lt_of_heap HR5.out)).trans HR5.out); have HO := hide hO; clear hb7 hR hO)
    | (go_at_call 37; refine (lrollback_none (HL6.out).log (HL6.out).dv (by omega) (by omega) (by rw [HP5.out.1]; omega) HP5.out.2.2.1).mono ?_; rintro e W8 ⟨rfl, hb8⟩; have HK7 := hide (HK6.out.trans (Kp8.of_below hb8 HL6.out.big)); have HO7 := hide (HO.out.below hb8 HO.out.lt); have cc := (cell8 ((hb8.block _ (lt_of_heap HR6.out)).trans HR6.out) 0).trans HC.out; clear hb8)
    | (go_at_call 39; refine (aw_eq HO7.out).mono ?_; rintro e W9 ⟨rfl, hb9⟩; have HB9 := hide hb9; clear hb9))
  go_ret
  exact ⟨rfl, bseq (HB.out.trans HK7.out.below) HB9.out⟩
end Go.Proofs.Ytmcbkflfopfolaa
namespace Go.Proofs.Ytmcbkflfopfolaa
open Go.RowKit Go.Shelf
set_option linter.unusedVariables false
set_option maxRecDepth 100000

theorem uwithin_any (w : World) (i n : Int) (hn : 0 < n) (hn' : n ≤ 4611686018427387904) (hi : -9223372036854775808 ≤ i) (hi' : i ≤ 9223372036854775807) : Calls Try.prog 11 #[.int .i64 i, .int .i64 n] w fun e w' => e = .returned (.int .i64 (i % n)) ∧ w' = w := by
  obtain ⟨h1, h2, h3⟩ := within_eq i n hn
  have hn0 : ¬ n = 0 := by omega
  obtain ⟨t, ht⟩ : ∃ t, i.tmod n = t := ⟨_, rfl⟩
  rw [ht] at h1 h2 h3
  by_cases h : t < 0
  · rw [if_pos h] at h1
    rw [← h1]
    clear h1
    go_enter Try.func11, Try.ntmps11
    go_wp2
    go_ret
    exact ⟨rfl, rfl⟩
  · rw [if_neg h] at h1
    rw [← h1]
    clear h1
    go_enter Try.func11, Try.ntmps11
    go_wp2
    go_ret
    exact ⟨rfl, rfl⟩
/-- The lengths. -/
def zsR (ls : List Int) (i : Nat) : List Int := (ls.take i).map (fun x => 1 + x % 90)
theorem zsR_succ {ls : List Int} {i : Nat} {x : Int} (h : ls[i]? = some x) : zsR ls (i + 1) = zsR ls i ++ [1 + x % 90] := by
  unfold zsR
  rw [List.take_add_one, h]
  simp
theorem zsR_mem {ls : List Int} {i : Nat} : ∀ z ∈ zsR ls i, 1 ≤ z ∧ z ≤ 90 := by
  intro z hz
  unfold zsR at hz
  obtain ⟨x, _, rfl⟩ := List.mem_map.1 hz
  omega
theorem zsR_len {ls : List Int} {i : Nat} (h : i ≤ ls.length) : (zsR ls i).length = i := by
  unfold zsR
  rw [List.length_map, List.length_take]
  omega
/-- The extents. -/
def exU (zs : List Int) : List (Int × Int) := zs.map (fun z => (600, z))
theorem exU_len (zs : List Int) : (exU zs).length = zs.length := by simp [exU]
theorem needV_good : ∀ (zs : List Int) (s : Int), (∀ l ∈ zs, 1 ≤ l ∧ l ≤ 90) → 0 ≤ s → s + 200 * (zs.length : Int) ≤ 1000000000 → (needV s zs).2 = 0
  | [], s, _, _, _ => rfl
  | l :: t, s, h, h0, hs => by
    obtain ⟨h1, h2⟩ := h l (by simp)
    have hr := roundV_pad h1 (by omega)
    have hp : padN l.toNat < 8 := by unfold padN; omega
    rw [List.length_cons] at hs
    unfold needV
    rw [hr, if_neg (by
      rintro (h | h | h)
      · omega
      · exact h rfl
      · simp only at h; omega)]
    exact needV_good t _ (fun y hy => h y (by simp [hy])) (by simp only; omega) (by simp only; omega)
theorem sum_ge : ∀ (zs : List Int), (∀ l ∈ zs, 1 ≤ l ∧ l ≤ 90) → 32 * zs.length ≤ (zs.map (fun l => rlen l.toNat)).sum ∧ (zs.map (fun l => rlen l.toNat)).sum ≤ 200 * zs.length
  | [], _ => by simp
  | l :: t, h => by
    have h1 := sum_ge t (fun y hy => h y (by simp [hy]))
    obtain ⟨h2, h3⟩ := h l (by simp)
    have h4 : 32 ≤ rlen l.toNat ∧ rlen l.toNat ≤ 200 := by unfold rlen padN; omega
    rw [List.map_cons, List.sum_cons, List.length_cons]
    omega
theorem need_room {zs : List Int} (hz : ∀ l ∈ zs, 1 ≤ l ∧ l ≤ 90) (hl : zs.length ≤ 40) : (needV 0 zs).2 = 0 ∧ ((32 * zs.length : Nat) : Int) ≤ (needV 0 zs).1 ∧ (needV 0 zs).1 ≤ 8000 := by
  have h1 := needV_good zs 0 hz (by omega) (by omega)
  have h2 := needV_sum zs 0 h1 (fun l hl => by have := hz l hl; omega)
  have h3 := sum_ge zs hz
  refine ⟨h1, ?_, ?_⟩ <;> rw [h2] <;> omega
theorem needX_room {zs : List Int} (hz : ∀ l ∈ zs, 1 ≤ l ∧ l ≤ 90) (hl : zs.length ≤ 40) : needX 128 384 16 (exU zs) = if 320 < (needV 0 zs).1 then (0, 111) else ((needV 0 zs).1, 0) := by
  have h1 := (need_room hz hl).1
  have h2 : allMay 128 384 16 (exU zs) = true := by
    unfold allMay
    refine List.all_eq_true.2 fun x hx => ?_
    unfold exU at hx
    obtain ⟨l, hl, rfl⟩ := List.mem_map.1 hx
    have := hz l hl
    refine may_of_fine (x := (600, l)) ⟨by simp only; omega, by simp only; omega, by simp only; omega, .inr (by simp only; omega)⟩
  have h3 : (exU zs).map Prod.snd = zs := by simp [exU, Function.comp_def]
  unfold needX
  rw [if_pos h2, h3]
  by_cases h : 320 < (needV 0 zs).1
  · rw [if_pos h, if_pos (.inr (by omega))]
  · rw [if_neg h, if_neg (by
      rintro (h4 | h4)
      · exact h4 h1
      · omega)]
section
variable {B0 gl b : Nat} {W : World} {L : Lay} {σ : St}
theorem rm_write {ea : Option Addr} {zs : List Int} {m cap : Nat} (h : Lg B0 W gl b 128 384 L σ) (hn : σ.n = 16) (ho : σ.ops = 0) (hb : σ.bytes = imgZ 8) (hz : ∀ l ∈ zs, 1 ≤ l ∧ l ≤ 90) (he : SlE W ea (exU zs)) (hm : zs.length = m) (hml : m ≤ 40) :
    Calls Try.prog 19 #[.pointer (some ⟨gl, 0, none⟩), .slice ea m cap] W fun e w' => ∃ c rs L' s, e = .returned (.int .i64 c) ∧ Lg B0 w' gl b 128 384 L' s ∧ s.n = 16 ∧ s.ops ≤ 6000000 ∧ leV ((s.bytes.drop 128).take 8) = rs.length ∧ RecsAt 128 384 16 s.bytes 192 rs ∧ (320 < (needV 0 zs).1 → c = 111 ∧ rs = [] ∧ s.ops = 0) ∧ (¬ 320 < (needV 0 zs).1 → c = 0 ∧ rs = recL (imgZ 8) (exU zs)) ∧ Kp8 B0 W w' ∧ Stp W b L σ w' L' s := by
  have hnx := needX_room hz (by omega)
  have hnr := need_room hz (by omega)
  have hnum : leV ((σ.bytes.drop 128).take 8) = 0 := by rw [hb]; exact imgZ_num
  have hsame : ∀ w', Below W.heap.size W w' → Lg B0 w' gl b 128 384 L σ ∧ Kp8 B0 W w' ∧ Stp W b L σ w' L σ := fun w' hB => ⟨h.below hB, Kp8.of_below hB h.big, ⟨Gr.of_below hB, fun k hk => .inl hk⟩⟩
  by_cases hc : 320 < (needV 0 zs).1
  · rw [if_pos hc] at hnx
    refine (lwrite_none (cap := cap) h.log h.dv (by omega) (by omega) (by rw [hn]; omega) hnum he ((exU_len zs).trans hm) (by omega) (by rw [hn, hnx]; exact .inl (by decide))).mono ?_
    rintro e w' ⟨rfl, hB⟩
    obtain ⟨a1, a2, a3⟩ := hsame w' hB
    refine ⟨111, [], L, σ, by rw [hn, hnx], a1, hn, by omega, hnum, trivial, fun _ => ⟨rfl, rfl, ho⟩, fun h => absurd hc h, a2, a3⟩
  · rw [if_neg hc] at hnx
    by_cases h0 : zs = []
    · subst h0
      refine (lwrite_none (cap := cap) h.log h.dv (by omega) (by omega) (by rw [hn]; omega) hnum he ((exU_len []).trans hm) (by omega) (by rw [hn, hnx]; exact .inr rfl)).mono ?_
      rintro e w' ⟨rfl, hB⟩
      obtain ⟨a1, a2, a3⟩ := hsame w' hB
      exact ⟨0, [], L, σ, by rw [hn, hnx], a1, hn, by omega, hnum, trivial, fun h => absurd h hc, fun _ => ⟨rfl, rfl⟩, a2, a3⟩
    · have hm1 : 1 ≤ m := by
        cases zs with
        | nil => exact absurd rfl h0
        | cons x t => simp at hm; omega
      refine (lg_write (cap := cap) h (by rw [hn]; exact ⟨by omega, by omega, by omega, by omega⟩) (by omega) hnum he ((exU_len zs).trans hm) hm1 (by omega) (by rw [hn, hnx])).mono ?_
      rintro e w' ⟨rfl, L', s, hL, hW, hK, hS⟩
      have h1 := hW.like.n
      have h2 := hW.like.ops
      have h3 := hW.few
      have h4 := hW.num
      have h5 := hW.recs
      rw [hn, hb] at h5
      refine ⟨0, recL (imgZ 8) (exU zs), L', s, rfl, hL, by omega, by omega, by rw [recL_len]; exact h4, h5, fun h => absurd h hc, fun _ => ⟨rfl, rfl⟩, hK, hS⟩
end
theorem infoExt : ∃ i, Try.prog.info? 50 = some i ∧ i.zero = some (.agg #[.int .i64 0, .int .i64 0]) ∧ i.size = 2 ∧ i.bytes = 16 := by
  have h : (Try.prog.info? 50).map (fun i => (i.zero, i.size, i.bytes)) = some (some (.agg #[.int .i64 0, .int .i64 0]), 2, 16) := by kernel_rfl
  cases hq : Try.prog.info? 50 with
  | none => rw [hq] at h; cases h
  | some i => rw [hq] at h; simp at h; exact ⟨i, rfl, h.1, h.2.1, h.2.2⟩
theorem infoNum : ∃ i, Try.prog.info? 3 = some i ∧ i.zero = some (.int .i64 0) ∧ i.size = 1 ∧ i.bytes = 8 := by
  have h : (Try.prog.info? 3).map (fun i => (i.zero, i.size, i.bytes)) = some (some (.int .i64 0), 1, 8) := by kernel_rfl
  cases hq : Try.prog.info? 3 with
  | none => rw [hq] at h; cases h
  | some i => rw [hq] at h; simp at h; exact ⟨i, rfl, h.1, h.2.1, h.2.2⟩
/-- The cells of extents. -/
def exC (xs : List (Int × Int)) : List Value := xs.flatMap (fun x => [.int .i64 x.1, .int .i64 x.2])
theorem exC_snoc (xs : List (Int × Int)) (x : Int × Int) : exC (xs ++ [x]) = exC xs ++ [.int .i64 x.1, .int .i64 x.2] := by simp [exC]
theorem exC_get : ∀ (xs : List (Int × Int)) (i : Nat) (x l : Int), xs[i]? = some (x, l) → (exC xs)[i * 2]? = some (.int .i64 x) ∧ (exC xs)[i * 2 + 1]? = some (.int .i64 l)
  | [], i, x, l, h => by simp at h
  | y :: t, 0, x, l, h => by simp at h; subst h; exact ⟨rfl, rfl⟩
  | y :: t, i + 1, x, l, h => by
    have h1 := exC_get t i x l (by simpa using h)
    have e : exC (y :: t) = .int .i64 y.1 :: .int .i64 y.2 :: exC t := rfl
    rw [e, show (i + 1) * 2 = i * 2 + 1 + 1 by omega]
    exact h1
theorem sle_of_row {W : World} {base n cap : Nat} {v : Value} {xs : List (Int × Int)} (h : W.ownsRow base 50 2 v n (exC xs)) (hn : xs.length = n) (hb : ∀ x ∈ xs, (-9223372036854775808 ≤ x.1 ∧ x.1 ≤ 9223372036854775807) ∧ (-9223372036854775808 ≤ x.2 ∧ x.2 ≤ 9223372036854775807)) : ∃ a c, v = .slice a n c ∧ SlE W a xs := by
  rcases h.2 with ⟨rfl, rfl⟩ | ⟨g, cp, cur, rfl, h1, h2, h3, h4, h5, h6⟩
  · exact ⟨none, 0, rfl, hb, .inl (List.length_eq_zero_iff.1 hn)⟩
  · refine ⟨some ⟨g, 0, none⟩, cp, rfl, hb, .inr ⟨g, 0, cur, rfl, h2, fun i x l hi => ?_⟩⟩
    obtain ⟨e1, e2⟩ := exC_get xs i x l hi
    have hil : i < xs.length := (List.getElem?_eq_some_iff.1 hi).1
    rw [← h6, List.getElem?_take, if_pos (by omega), Array.getElem?_toList] at e1 e2
    rw [Nat.zero_add]
    exact ⟨e1, e2⟩
theorem slz_of_row {W : World} {base n : Nat} {v : Value} {zs : List Int} (h : W.ownsRow base 3 1 v n (zs.map (fun z => .int .i64 z))) (hn : zs.length = n) (hb : ∀ z ∈ zs, -9223372036854775808 ≤ z ∧ z ≤ 9223372036854775807) : ∃ a c, v = .slice a n c ∧ SlZ W a zs := by
  rcases h.2 with ⟨rfl, rfl⟩ | ⟨g, cp, cur, rfl, h1, h2, h3, h4, h5, h6⟩
  · exact ⟨none, 0, rfl, hb, .inl (List.length_eq_zero_iff.1 hn)⟩
  · refine ⟨some ⟨g, 0, none⟩, cp, rfl, hb, .inr ⟨g, 0, rfl, lt_of_heap h2, fun i z hi => ?_⟩⟩
    have hil : i < zs.length := (List.getElem?_eq_some_iff.1 hi).1
    have e1 : (zs.map (fun z => Value.int .i64 z))[i]? = some (.int .i64 z) := by rw [List.getElem?_map, hi]; rfl
    rw [← h6, List.getElem?_take, if_pos (by omega), Array.getElem?_toList] at e1
    rw [Nat.zero_add]
    exact (cell8 h2 i).trans e1
end Go.Proofs.Ytmcbkflfopfolaa
namespace Go.Proofs.Ytmcbkflfopfolaa
open Go.RowKit Go.Shelf
set_option linter.unusedVariables false

/-- What the document's device stands for: of each line its contents, the durable one first; which of them was flushed last (-1: none). -/
structure RSt where
  n : Nat
  con : Nat → List (List Nat)
  mark : Nat → Int
  ops : Nat
  cnt : Nat
  gone : Bool
structure RSt.Ok (ρ : RSt) : Prop where
  pos : 1 ≤ ρ.n
  max : ρ.n ≤ 65536
  ne : ∀ i, i < ρ.n → ρ.con i ≠ []
  few : ∀ i, i < ρ.n → (ρ.con i).length ≤ 1400000000001
  len : ∀ i c, i < ρ.n → c ∈ ρ.con i → c.length = 64
  byte : ∀ i c, i < ρ.n → c ∈ ρ.con i → ∀ x ∈ c, x < 256
/-- Where its parts lie. -/
structure RLay where
  lb : Nat
  lc : Nat
  ab : Nat → Nat
  ao : Nat → Nat
  ac : Nat → Nat
  cb : Nat → Nat → Nat
  av : Value
def refC (M : RLay) (ρ : RSt) : Array Value := #[.int .i64 ((64 * ρ.n : Nat) : Int), .slice (some ⟨M.lb, 0, none⟩) ρ.n M.lc, .int .i64 (ρ.ops : Int), M.av, .int .i64 (ρ.cnt : Int), .bool ρ.gone]
structure RefL (w : World) (b : Nat) (M : RLay) (ρ : RSt) : Prop where
  dev : w.heap[b]? = some (.cells (refC M ρ) 84 (0, 0))
  row : ∃ cur, w.heap[M.lb]? = some (.cells cur 110 (0, 0)) ∧ ∀ i, i < ρ.n → cur[i * 2]? = some (.slice (some ⟨M.ab i, M.ao i, none⟩) (ρ.con i).length (M.ac i)) ∧ cur[i * 2 + 1]? = some (.int .i64 (ρ.mark i))
  all : ∀ i j c, i < ρ.n → (ρ.con i)[j]? = some c → w.cell? ⟨M.ab i, M.ao i + j, none⟩ = some (.slice (some ⟨M.cb i j, 0, none⟩) 64 64) ∧ OwnB w (M.cb i j) c
  ty : ∀ i, i < ρ.n → ∃ cur, w.heap[M.ab i]? = some (.cells cur 55 (0, 0))
/-- Its blocks. -/
def RFoot (b : Nat) (M : RLay) (ρ : RSt) (k : Nat) : Prop := k = b ∨ k = M.lb ∨ (∃ i, i < ρ.n ∧ k = M.ab i) ∨ ∃ i j, i < ρ.n ∧ j < (ρ.con i).length ∧ k = M.cb i j
section
variable {w w' : World} {b : Nat} {M : RLay} {ρ : RSt}
theorem RefL.keep (h : RefL w b M ρ) (hk : ∀ k, RFoot b M ρ k → w'.heap[k]? = w.heap[k]?) : RefL w' b M ρ where
  dev := (hk b (.inl rfl)).trans h.dev
  row := by
    obtain ⟨cur, h1, h2⟩ := h.row
    exact ⟨cur, (hk _ (.inr (.inl rfl))).trans h1, h2⟩
  all := fun i j c hi hc => by
    obtain ⟨h1, h2⟩ := h.all i j c hi hc
    exact ⟨(World.cell?_of_block (hk _ (.inr (.inr (.inl ⟨i, hi, rfl⟩))))).trans h1, h2.of_block (hk _ (.inr (.inr (.inr ⟨i, j, hi, (List.getElem?_eq_some_iff.1 hc).1, rfl⟩))))⟩
  ty := fun i hi => by
    obtain ⟨cur, h1⟩ := h.ty i hi
    exact ⟨cur, (hk _ (.inr (.inr (.inl ⟨i, hi, rfl⟩)))).trans h1⟩
theorem RefL.lt (h : RefL w b M ρ) {k : Nat} (hk : RFoot b M ρ k) : k < w.heap.size := by
  rcases hk with rfl | rfl | ⟨i, hi, rfl⟩ | ⟨i, j, hi, hj, rfl⟩
  · exact lt_of_heap h.dev
  · obtain ⟨cur, h1, _⟩ := h.row
    exact lt_of_heap h1
  · obtain ⟨cur, h1⟩ := h.ty i hi
    exact lt_of_heap h1
  · exact (h.all i j _ hi (List.getElem?_eq_getElem hj)).2.lt
theorem RefL.below (h : RefL w b M ρ) (hB : Below w.heap.size w w') : RefL w' b M ρ := h.keep fun k hk => hB.block k (h.lt hk)
theorem RefL.c (h : RefL w b M ρ) (j : Nat) : w.cell? ⟨b, j, none⟩ = (refC M ρ)[j]? := cell8 h.dev j
theorem RefL.line (h : RefL w b M ρ) {i : Nat} (hi : i < ρ.n) : w.cell? ⟨M.lb, i * 2, none⟩ = some (.slice (some ⟨M.ab i, M.ao i, none⟩) (ρ.con i).length (M.ac i)) := by
  obtain ⟨cur, h1, h2⟩ := h.row
  exact (cell8 h1 _).trans (h2 i hi).1
end
theorem index_rline (g i len cap : Nat) (hi : i < len) (w : World) : (Instr.indexAt 82 (.slice (some ⟨g, 0, none⟩) len cap) (.int .i64 (i : Int))).run Try.prog w = .ok (.pointer (some ⟨g, i * 2, none⟩)) w := by
  have h := index_at (t := 82) (e := 110) (sz := 2) Try.underlying82 (by kernel_rfl) g 0 i len cap hi w
  rwa [Nat.zero_add] at h
theorem index_rrow (g o i len cap : Nat) (hi : i < len) (w : World) : (Instr.indexAt 68 (.slice (some ⟨g, o, none⟩) len cap) (.int .i64 (i : Int))).run Try.prog w = .ok (.pointer (some ⟨g, o + i, none⟩)) w := by
  have h := index_at (t := 68) (e := 55) (sz := 1) Try.underlying68 (by kernel_rfl) g o i len cap hi w
  rwa [Nat.mul_one] at h
/-- As a device stands for it. -/
def rOf (σ : St) (mk : Nat → Int) : RSt := ⟨σ.n, fun i => σ.past i ++ [σ.line i], mk, σ.ops, σ.cnt, σ.off⟩
theorem rOf_ok {σ : St} (h : σ.Ok) (mk : Nat → Int) : (rOf σ mk).Ok where
  pos := h.pos
  max := h.max
  ne := fun i hi => by simp [rOf]
  few := fun i hi => by
    have := h.few i
    have := h.opsm
    simp [rOf]
    omega
  len := fun i c hi hc => by
    rcases List.mem_append.1 hc with h1 | h1
    · exact h.clen i c h1
    · rw [List.mem_singleton.1 h1]; exact line_len h hi
  byte := fun i c hi hc => by
    rcases List.mem_append.1 hc with h1 | h1
    · exact h.cbyte i c h1
    · rw [List.mem_singleton.1 h1]; exact fun x hx => h.byte x (line_mem hx)
theorem rlast_of {w : World} {b i : Nat} {M : RLay} {σ : St} {mk : Nat → Int} (h : RefL w b M (rOf σ mk)) (hi : i < σ.n) : OwnB w (M.cb i (σ.past i).length) (σ.line i) := (h.all i (σ.past i).length (σ.line i) hi (by simp [rOf])).2
end Go.Proofs.Ytmcbkflfopfolaa
namespace Go.Proofs.Ytmcbkflfopfolaa
open Go.RowKit Go.Shelf
set_option linter.unusedVariables false

theorem infoB8 : ∃ i, Try.prog.info? 5 = some i ∧ i.zero = some (.int .u8 0) ∧ i.size = 1 ∧ i.bytes = 1 := by
  have h : (Try.prog.info? 5).map (fun i => (i.zero, i.size, i.bytes)) = some (some (.int .u8 0), 1, 1) := by kernel_rfl
  obtain ⟨i, h1, h2⟩ := Option.map_eq_some_iff.1 h
  simp only [Prod.mk.injEq] at h2
  exact ⟨i, h1, h2.1, h2.2.1, h2.2.2⟩
theorem index_b8 (g i len cap : Nat) (hi : i < len) (w : World) : (Instr.indexAt 55 (.slice (some ⟨g, 0, none⟩) len cap) (.int .i64 (i : Int))).run Try.prog w = .ok (.pointer (some ⟨g, i, none⟩)) w := by
  have h := index_at (t := 55) (e := 5) (sz := 1) Try.underlying55 (by kernel_rfl) g 0 i len cap hi w
  rwa [Nat.mul_one, Nat.zero_add] at h
section
variable {w : World} {b : Nat} {M : RLay} {σ : St} {mk : Nat → Int}
end
end Go.Proofs.Ytmcbkflfopfolaa
namespace Go.Proofs.Ytmcbkflfopfolaa
open Go.RowKit Go.Shelf
set_option linter.unusedVariables false

theorem wpAnyH_doS {P : Program} {ops : Array Oper} {Q : Exit → Act → World → Prop} {md : Region.Mode} {S : World → Prop} {i : Nat} {o : Oper} {fuel : Nat} {listed : Array Bool} {a : Act} {w : World} (hr : Region.ready md ops listed = [i]) (ho : ops[i]? = some o) (hw : Region.wanted o (yielded ops a.tmps) = true)
    (h : ∀ K' : Act → World → Prop, Shut (∀ a w, S w → wpAnyH P md ops Q S fuel (listed.setIfInBounds i true) a w → K' a w) → Oper.wp P o a w K' Q) : wpAnyH P md ops Q S (fuel + 1) listed a w := by
  refine wpAnyH_ready (rs := [i]) hr (by simp) (AllReadyH.cons ho (fun K hK => ?_) AllReadyH.nil)
  rw [if_pos hw]
  exact h K (fun a w hs hq => hK a w hs (fun _ => hq))
/-- May a device have that size? -/
def fitS (x : Int) : Prop := 64 ≤ x ∧ x ≤ 4194304 ∧ x % 64 = 0
theorem rfits_any (x : Int) (w : World) (hx : -9223372036854775808 ≤ x) (hx' : x ≤ 9223372036854775807) : Calls Try.prog 32 #[.int .i64 x] w fun e w' => (fitS x ∧ e = .returned (.bool true) ∨ ¬ fitS x ∧ e = .returned (.bool false)) ∧ w' = w := by
  unfold fitS
  by_cases h1 : 64 ≤ x
  · have htm : x.tmod 64 = x % 64 := Int.tmod_eq_emod_of_nonneg (by omega)
    by_cases h2 : x ≤ 4194304
    · by_cases h3 : x % 64 = 0
      · go_enter Try.func32, Try.ntmps32
        go_wp2
        go_ret
        exact ⟨.inl ⟨⟨h1, h2, h3⟩, rfl⟩, rfl⟩
      · have h3b : (x % 64 == 0) = false := by simpa using h3
        go_enter Try.func32, Try.ntmps32
        go_wp2
        go_ret
        exact ⟨.inr ⟨fun h => h3 h.2.2, rfl⟩, rfl⟩
    · go_enter Try.func32, Try.ntmps32
      go_wp2
      go_ret
      exact ⟨.inr ⟨fun h => by omega, rfl⟩, rfl⟩
  · go_enter Try.func32, Try.ntmps32
    go_wp2
    go_ret
    exact ⟨.inr ⟨fun h => by omega, rfl⟩, rfl⟩
theorem rfrom_no (a : Option Addr) (N cap : Nat) (w : World) (hN : N ≤ 140737488355328) (h : ¬ fitS (N : Int)) : Calls Try.prog 33 #[.slice a N cap] w fun e w' => e = .returned (.tuple #[.pointer none, .int .i64 80]) ∧ w' = w := by
  have kf : Calls Try.prog 32 #[.int .i64 (N : Int)] w fun e w' => e = .returned (.bool false) ∧ w' = w := (rfits_any (N : Int) w (by omega) (by omega)).mono fun e w' ⟨h1, h2⟩ => ⟨h1.elim (fun q => absurd q.1 h) (fun q => q.2), h2⟩
  have KF := hide kf
  clear kf h
  go_enter Try.func33, Try.ntmps33
  go_wp2_with (go_at_call 32; refine (KF.out).mono ?_; rintro e w' ⟨rfl, hw⟩; obtain rfl := hw.symm)
  go_ret2
  exact ⟨rfl, rfl⟩
/-- A From under way. -/
structure RFr (w wr : World) (b N : Nat) (σ : St) (j : Nat) (lv : Value) (vals : List Value) (A C : Nat → Nat) : Prop where
  dev : wr.heap[b]? = some (.cells #[.int .i64 (N : Int), lv, .int .i64 0, .slice none 0 0, .int .i64 0, .bool false] 84 (0, 0))
  own : wr.ownsRow w.heap.size 110 2 lv j vals
  at_ : ∀ i, i < j → vals[i * 2]? = some (.slice (some ⟨A i, 0, none⟩) 1 1) ∧ vals[i * 2 + 1]? = some (.int .i64 (-1)) ∧ wr.heap[A i]? = some (.cells #[.slice (some ⟨C i, 0, none⟩) 64 64] 55 (0, 0)) ∧ OwnB wr (C i) (σ.line i)
  new : ∀ i, i < j → w.heap.size ≤ A i ∧ w.heap.size ≤ C i
  nb : w.heap.size ≤ b
  bel : Below w.heap.size w wr
theorem RFr.step {w wr W1 W4 : World} {b N j c : Nat} {σ : St} {lv v' : Value} {vals : List Value} {A C : Nat → Nat} (h : RFr w wr b N σ j lv vals A C) (hB : Below wr.heap.size wr W1) (hc : OwnB W1 c (σ.line j)) (hcn : wr.heap.size ≤ c)
    (hg : ((W1.alloc (.cells #[.slice (some ⟨c, 0, none⟩) 64 64] 55)).alloc (.cells #[.slice (some ⟨W1.heap.size, 0, none⟩) 1 1, .int .i64 (-1)] 110)).grownBy W4 lv.ownBlock) (ho : W4.ownsRow w.heap.size 110 2 v' (j + 1) (vals ++ [.slice (some ⟨W1.heap.size, 0, none⟩) 1 1, .int .i64 (-1)])) :
    RFr w (W4.setCell ⟨b, 1, none⟩ v') b N σ (j + 1) v' (vals ++ [.slice (some ⟨W1.heap.size, 0, none⟩) 1 1, .int .i64 (-1)]) (fun i => if i = j then W1.heap.size else A i) (fun i => if i = j then c else C i) := by
  have hB2 : Below wr.heap.size wr ((W1.alloc (.cells #[.slice (some ⟨c, 0, none⟩) 64 64] 55)).alloc (.cells #[.slice (some ⟨W1.heap.size, 0, none⟩) 1 1, .int .i64 (-1)] 110)) := (hB.alloc hB.size _).alloc (by simp; have := hB.size; omega) _
  have hown1 : ∀ g, lv.ownBlock = some g → ∃ q, wr.heap[g]? = some (.cells q 110 (0, 0)) := fun g hg => own_type h.own hg
  have k4 : ∀ (k : Nat) (q : Array Value) (t : TypeId) (f : Nat × Nat), wr.heap[k]? = some (.cells q t f) → t ≠ 110 → W4.heap[k]? = wr.heap[k]? := fun k q t f hk ht => (hg.block k (Nat.lt_of_lt_of_le (lt_of_heap hk) hB2.size) (fun e => by
    obtain ⟨q', hq'⟩ := hown1 k e.symm
    exact ne_ty hk hq' ht rfl)).trans (hB2.block k (lt_of_heap hk))
  have k5 : ∀ (k : Nat) (q : Array Value) (t : TypeId) (f : Nat × Nat), wr.heap[k]? = some (.cells q t f) → t ≠ 110 → t ≠ 84 → (W4.setCell ⟨b, 1, none⟩ v').heap[k]? = wr.heap[k]? := fun k q t f hk ht ht2 => (heap_set_ne _ _ _ _ _ (ne_ty hk h.dev ht2)).trans (k4 k q t f hk ht)
  have hd4 := (k4 _ _ _ _ h.dev (by decide)).trans h.dev
  have hlo : ∀ g, lv.ownBlock = some g → g < wr.heap.size := fun g hg => by
    obtain ⟨q, hq⟩ := hown1 g hg
    exact lt_of_heap hq
  -- the new rows
  have kn : ∀ k, wr.heap.size ≤ k → k < ((W1.alloc (.cells #[.slice (some ⟨c, 0, none⟩) 64 64] 55)).alloc (.cells #[.slice (some ⟨W1.heap.size, 0, none⟩) 1 1, .int .i64 (-1)] 110)).heap.size → k ≠ b → (W4.setCell ⟨b, 1, none⟩ v').heap[k]? = ((W1.alloc (.cells #[.slice (some ⟨c, 0, none⟩) 64 64] 55)).alloc (.cells #[.slice (some ⟨W1.heap.size, 0, none⟩) 1 1, .int .i64 (-1)] 110)).heap[k]? := fun k hk hl hne => (heap_set_ne _ _ _ _ _ hne).trans (hg.block k hl (fun e => by have := hlo k e.symm; omega))
  have hbl := lt_of_heap h.dev
  have hA : ((W1.alloc (.cells #[.slice (some ⟨c, 0, none⟩) 64 64] 55)).alloc (.cells #[.slice (some ⟨W1.heap.size, 0, none⟩) 1 1, .int .i64 (-1)] 110)).heap[W1.heap.size]? = some (.cells #[.slice (some ⟨c, 0, none⟩) 64 64] 55 (0, 0)) := (((Below.refl _ _).alloc (Nat.le_refl _) _).block _ (by simp)).trans (heapNew W1 _)
  have hC : OwnB ((W1.alloc (.cells #[.slice (some ⟨c, 0, none⟩) 64 64] 55)).alloc (.cells #[.slice (some ⟨W1.heap.size, 0, none⟩) 1 1, .int .i64 (-1)] 110)) c (σ.line j) := (hc.below ((Below.refl _ _).alloc (Nat.le_refl _) _) hc.lt).below ((Below.refl _ _).alloc (Nat.le_refl _) _) (by simp; have := hc.lt; omega)
  have hs1 := hB.size
  have hbs := h.bel.size
  refine ⟨heap_set1 _ b 1 _ _ v' hd4, ownsRow_of_block ho (fun g hg' => heap_set_ne _ _ _ _ _ ?_), fun i hi => ?_, fun i hi => ?_, h.nb, ?_⟩
  · obtain ⟨q, hq⟩ := own_type ho hg'
    exact ne_ty hq hd4 (by decide)
  · have hvl : vals.length = j * 2 := h.own.1
    by_cases e : i = j
    · subst e
      simp only [if_true]
      refine ⟨?_, ?_, (kn _ hs1 (by rw [World.size_alloc, World.size_alloc]; omega) (by omega)).trans hA, hC.of_block (kn _ hcn hC.lt (by omega))⟩
      · rw [List.getElem?_append_right (by omega), hvl]; simp
      · rw [List.getElem?_append_right (by omega), hvl, show i * 2 + 1 - i * 2 = 1 by omega]; rfl
    · obtain ⟨a1, a2, a3, a4⟩ := h.at_ i (by omega)
      simp only [if_neg e]
      exact ⟨by rw [List.getElem?_append_left (by omega)]; exact a1, by rw [List.getElem?_append_left (by omega)]; exact a2, (k5 _ _ _ _ a3 (by decide) (by decide)).trans a3, a4.of_block (k5 _ _ _ _ a4 (by decide) (by decide))⟩
  · by_cases e : i = j
    · subst e
      simp only [if_true]
      exact ⟨by omega, by omega⟩
    · simp only [if_neg e]
      exact h.new i (by omega)
  · refine ⟨hg.os.trans (hB2.os.trans h.bel.os), hg.tape.trans (hB2.tape.trans h.bel.tape), hg.output.trans (hB2.output.trans h.bel.output), ?_, fun k hk => ?_⟩
    · rw [size_set]
      exact Nat.le_trans h.bel.size (Nat.le_trans hB2.size hg.size)
    · have hnb := h.nb
      refine (heap_set_ne W4 b 1 k v' (by omega)).trans ((hg.block k (by have := hB2.size; omega) (fun e => ?_)).trans ((hB2.block k (by omega)).trans (h.bel.block k hk)))
      rcases h.own.2 with ⟨e1, _⟩ | ⟨g', cap, cur, e1, e2, _⟩
      · rw [e1] at e; cases e
      · rw [e1] at e
        have e3 : k = g' := Option.some.inj e
        omega
/-- It is done. -/
theorem RFr.fin {w wr : World} {b m : Nat} {bs : List Nat} {lv : Value} {vals : List Value} {A C : Nat → Nat} (h : RFr w wr b (64 * m) (fromD m bs) m lv vals A C) (hm : 1 ≤ m) : ∃ M, RefL wr b M (rOf (fromD m bs) (fun _ => -1)) ∧ ∀ k, RFoot b M (rOf (fromD m bs) (fun _ => -1)) k → w.heap.size ≤ k := by
  rcases h.own.2 with ⟨_, e⟩ | ⟨lb, lc, cur, rfl, h1, h2, h3, h4, h5, h6⟩
  · omega
  · have hcur : ∀ (q : Nat) (u : Value), vals[q]? = some u → cur[q]? = some u := fun q u hu => by
      have hq := (List.getElem?_eq_some_iff.1 hu).1
      rw [← h6, List.getElem?_take] at hu
      split at hu
      · rwa [Array.getElem?_toList] at hu
      · cases hu
    refine ⟨⟨lb, lc, A, fun _ => 0, fun _ => 1, fun i _ => C i, .slice none 0 0⟩, ⟨h.dev, ⟨cur, h2, fun i hi => ?_⟩, fun i j c hi hc => ?_, fun i hi => ⟨_, (h.at_ i hi).2.2.1⟩⟩, fun k hk => ?_⟩
    · obtain ⟨a1, a2, _⟩ := h.at_ i hi
      exact ⟨hcur _ _ a1, hcur _ _ a2⟩
    · obtain ⟨_, _, a3, a4⟩ := h.at_ i hi
      have hc' : ([(fromD m bs).line i] : List (List Nat))[j]? = some c := hc
      have hj : j = 0 := by
        have := (List.getElem?_eq_some_iff.1 hc').1
        simpa using this
      subst hj
      simp at hc'
      subst hc'
      exact ⟨cell8 a3 0, a4⟩
    · rcases hk with rfl | rfl | ⟨i, hi, rfl⟩ | ⟨i, j, hi, hj, rfl⟩
      · exact h.nb
      · exact h1
      · exact (h.new i hi).1
      · exact (h.new i hi).2
theorem infoLn : ∃ i z, Try.prog.info? 110 = some i ∧ i.zero = some z ∧ z.cells.size = 2 ∧ i.size = 2 ∧ i.bytes = 32 := by
  have h : (Try.prog.info? 110).map (fun i => (i.zero.map (·.cells.size), i.size, i.bytes)) = some (some 2, 2, 32) := by kernel_rfl
  obtain ⟨i, h1, h2⟩ := Option.map_eq_some_iff.1 h
  simp only [Prod.mk.injEq] at h2
  obtain ⟨z, hz, hzs⟩ := Option.map_eq_some_iff.1 h2.1
  exact ⟨i, z, h1, hz, hzs, h2.2.1, h2.2.2⟩
theorem slice_mid (g o d e n cap : Nat) (hd : d + e ≤ n) (he : 1 ≤ e) (hn : n ≤ cap) (hsm : n ≤ 4194304) (w : World) : (Instr.sliceAt 55 (.slice (some ⟨g, o, none⟩) n cap) (some (.int .i64 (d : Int))) (some (.int .i64 ((d : Int) + (e : Int)))) none).run Try.prog w = .ok (.slice (some ⟨g, o + d, none⟩) e (cap - d)) w := by
  obtain ⟨it, h1, h2⟩ := info_of (t := 5) (n := 1) (by kernel_rfl)
  have hu : Try.prog.underlying 55 = some (.slice 5) := by kernel_rfl
  have c1 : (0 : Int) ≤ (d : Int) + (e : Int) ∧ (d : Int) + (e : Int) ≤ (cap : Int) := by omega
  have c2 : (0 : Int) ≤ (d : Int) ∧ (d : Int) ≤ (d : Int) + (e : Int) := by omega
  have e1 : ((d : Int) + (e : Int)).toNat = d + e := by omega
  have e2 : d + e - d = e := by omega
  have e3 : ¬ cap = d := by omega
  simp [Instr.sliceAt, Instr.slice, Sem.run_bind, run_underlying hu, Instr.sliceBounds, Instr.sliceBound, asIntOf, sizeOf, typeInfo, h1, h2, Addr.add_mid, c1, c2, e1, e2, e3]
set_option maxRecDepth 100000 in
set_option maxHeartbeats 2000000 in
theorem rfrom_any (w : World) (ab ao N cap m : Nat) (bs : List Nat) (hs : Seg w ab ao bs) (hab : ab < w.heap.size) (hNl : bs.length = N) (hNm : N = 64 * m) (h1 : 1 ≤ m) (h2 : m ≤ 65536) (hb : ∀ x ∈ bs, x < 256) (hnc : N ≤ cap) :
    Calls Try.prog 33 #[.slice (some ⟨ab, ao, none⟩) N cap] w fun e w' => ∃ b M, e = .returned (.tuple #[.pointer (some ⟨b, 0, none⟩), .int .i64 0]) ∧ RefL w' b M (rOf (fromD m bs) (fun _ => -1)) ∧ (∀ k, RFoot b M (rOf (fromD m bs) (fun _ => -1)) k → w.heap.size ≤ k) ∧ Below w.heap.size w w' := by
  obtain ⟨it, z, hit, hz, hzs, hz2, hz32⟩ := infoLn
  have hok := fromD_ok h1 h2 (hNl.trans hNm) hb
  have kf : Calls Try.prog 32 #[.int .i64 (N : Int)] w fun e w' => e = .returned (.bool true) ∧ w' = w := (rfits_any (N : Int) w (by omega) (by omega)).mono fun e w' ⟨h3, h4⟩ => ⟨h3.elim (fun q => q.2) (fun q => absurd ⟨by omega, by omega, by omega⟩ q.1), h4⟩
  have hA : Below w.heap.size w (w.alloc (.cells #[.int .i64 (N : Int), .slice none 0 0, .int .i64 0, .slice none 0 0, .int .i64 0, .bool false] 84)) := (Below.refl _ w).alloc (Nat.le_refl _) _
  have hfr : RFr w (w.alloc (.cells #[.int .i64 (N : Int), .slice none 0 0, .int .i64 0, .slice none 0 0, .int .i64 0, .bool false] 84)) w.heap.size N (fromD m bs) 0 (.slice none 0 0) [] (fun _ => 0) (fun _ => 0) := ⟨heapNew w _, ⟨rfl, .inl ⟨rfl, rfl⟩⟩, fun i hi => by omega, fun i hi => by omega, Nat.le_refl _, hA⟩
  have KF := hide kf
  have HFR := hide hfr
  have HOK := hide hok
  have HS := hide hs
  have HAB := hide hab
  have HNL := hide hNl
  have HNM := hide hNm
  have HNC := hide hnc
  have H1 := hide h1
  have hN4 : N ≤ 4194304 := by omega
  have mI : (m : Int) ≤ 65536 := by omega
  clear kf hfr hok hs hab hNl hNm hnc hb h1 h2 hA
  go_enter Try.func33, Try.ntmps33
  go_wp2_with (go_at_call 32; refine (KF.out).mono ?_; rintro e w' ⟨rfl, hw⟩; obtain rfl := hw.symm)
  obtain ⟨b, hb⟩ : ∃ b, w.heap.size = b := ⟨_, rfl⟩
  rw [hb] at HFR ⊢
  have HBB := hide hb
  clear hb
  try go_frame
  go_loopw [5] (fun iv wr => ∃ (j : Nat) (lv : Value) (vals : List Value) (A C : Nat → Nat), iv = .int .i64 ((64 * j : Nat) : Int) ∧ j ≤ m ∧ RFr w wr b N (fromD m bs) j lv vals A C) (fun iv _ => (64 * m - (intOf iv).toNat))
  case atStart => exact ⟨0, _, _, _, _, rfl, Nat.zero_le _, HFR.out⟩
  case round =>
    obtain ⟨j, lv, vals, A, C, rfl, hj, hF⟩ := hrel
    have hNm := HNM.out
    by_cases hlt : j < m
    · obtain ⟨p, hp⟩ : ∃ p, p = 64 * j := ⟨_, rfl⟩
      rw [← hp]
      have pI : (p : Int) < (N : Int) := by omega
      obtain ⟨la, lc, hlv⟩ := own_slice hF.own
      have c1 : wr.cell? ⟨b, 1, none⟩ = some (.slice la j lc) := by rw [← hlv]; exact cell8 hF.dev 1
      have hbl := lt_of_heap hF.dev
      have hll := line_len HOK.out (show j < (fromD m bs).n from hlt)
      have hbw : ab < wr.heap.size := Nat.lt_of_lt_of_le HAB.out hF.bel.size
      have hsw : Sl wr.drew (some ⟨ab, ao + p, none⟩) ((fromD m bs).line j) := .inr ⟨ab, ao + p, rfl, hbw, fun q x hx => by
        unfold St.line at hx
        rw [List.getElem?_take] at hx
        split at hx
        · rw [List.getElem?_drop, ← hp] at hx
          have h5 := HS.out _ _ hx
          rw [Nat.add_assoc]
          refine ⟨(World.cell?_of_block (a := ⟨ab, ao + (p + q), none⟩) ?_).trans h5.1, h5.2⟩
          exact hF.bel.block ab HAB.out
        · cases hx⟩
      have kc := copyBytes_any (some ⟨ab, ao + p, none⟩) (cap - p) ((fromD m bs).line j) wr.drew hsw (by rw [hll]; omega)
      rw [hll] at kc
      have hncc := HNC.out
      have SL : Hid (∀ X, (Instr.sliceAt 55 (.slice (some ⟨ab, ao, none⟩) N cap) (some (.int .i64 (p : Int))) (some (.int .i64 ((p : Int) + 64))) none).run Try.prog X = .ok (.slice (some ⟨ab, ao + p, none⟩) 64 (cap - p)) X) := fun X => slice_mid ab ao p 64 N cap (by omega) (by omega) hncc hN4 X
      have WM : Hid (IntKind.i64.wrap ((p : Int) + 64) = (p : Int) + 64) := by show IntKind.i64.wrap _ = _; rw [IntKind.wrap_i64]; omega
      have s0 : wr.drew.cell? ⟨b, 1, none⟩ = some (.slice la j lc) := c1
      have KC := hide kc
      have S0 := hide s0
      have HF := hide hF
      have HLV := hide hlv
      have HP := hide hp
      have hj5 : j ≤ 65536 := by omega
      clear kc s0 hsw hll hncc hbw hlv hp hF hNm
      go_wp2_with (fail)
      try go_frame
      refine wp_region_early 17 (fun X => X.cell? ⟨b, 1, none⟩ = some (.slice la j lc)) (by kernel_rfl) S0.out (fun hS => ?_)
      refine wpAnyE_take (i := 0) (v := (Value.pointer (some ⟨b, 0, none⟩))) rfl (by kernel_rfl) (by kernel_rfl) (by kernel_rfl) (by kernel_rfl) (fun _ _ _ h => h) (Or.inl ⟨by kernel_rfl, fun w' hw => by (go_simp)⟩) hS ?_
      refine wpAnyE_take (i := 1) (v := (Value.pointer (some ⟨b, 0, none⟩))) rfl (by kernel_rfl) (by kernel_rfl) (by kernel_rfl) (by kernel_rfl) (fun _ _ _ h => h) (Or.inl ⟨by kernel_rfl, fun w' hw => by (go_simp)⟩) hS ?_
      refine wpAnyE_take (i := 2) (v := (Value.pointer (some ⟨b, 0, none⟩))) rfl (by kernel_rfl) (by kernel_rfl) (by kernel_rfl) (by kernel_rfl) (fun _ _ _ h => h) (Or.inl ⟨by kernel_rfl, fun w' hw => by (go_simp)⟩) hS ?_
      refine wpAnyE_take (i := 3) (v := (Value.pointer (some ⟨b, 1, none⟩))) rfl (by kernel_rfl) (by kernel_rfl) (by kernel_rfl) (by kernel_rfl) (fun _ _ _ h => h) (Or.inl ⟨by kernel_rfl, fun w' hw => by (go_simp)⟩) hS ?_
      refine wpAnyE_take (i := 4) (v := (Value.slice la j lc)) rfl (by kernel_rfl) (by kernel_rfl) (by kernel_rfl) (by kernel_rfl) (fun _ _ _ h => h) (Or.inl ⟨by kernel_rfl, fun w' hw => by (go_simp)⟩) hS ?_
      refine wpAnyE_take (i := 5) (v := (Value.slice (some ⟨ab, ao, none⟩) N cap)) rfl (by kernel_rfl) (by kernel_rfl) (by kernel_rfl) (by kernel_rfl) (fun _ _ _ h => h) (Or.inl ⟨by kernel_rfl, fun w' hw => by (go_simp)⟩) hS ?_
      refine wpAnyE_take (i := 6) (v := (Value.int .i64 (p : Int))) rfl (by kernel_rfl) (by kernel_rfl) (by kernel_rfl) (by kernel_rfl) (fun _ _ _ h => h) (Or.inl ⟨by kernel_rfl, fun w' hw => by (go_simp)⟩) hS ?_
      refine wpAnyE_take (i := 7) (v := (Value.int .i64 (p : Int))) rfl (by kernel_rfl) (by kernel_rfl) (by kernel_rfl) (by kernel_rfl) (fun _ _ _ h => h) (Or.inl ⟨by kernel_rfl, fun w' hw => by (go_simp)⟩) hS ?_
      refine wpAnyE_take (i := 8) (v := (Value.int .i64 ((p : Int) + 64))) rfl (by kernel_rfl) (by kernel_rfl) (by kernel_rfl) (by kernel_rfl) (fun _ _ _ h => h) (Or.inl ⟨by kernel_rfl, fun w' hw => by (have wm := WM.out; go_simp)⟩) hS ?_
      refine wpAnyE_take (i := 9) (v := (Value.slice (some ⟨ab, ao + p, none⟩) 64 (cap - p))) rfl (by kernel_rfl) (by kernel_rfl) (by kernel_rfl) (by kernel_rfl) (fun _ _ _ h => h) (Or.inl ⟨by kernel_rfl, fun w' hw => by (have e := SL.out w'; go_simp)⟩) hS ?_
      refine wpAnyE_do (i := 10) (by kernel_rfl) rfl (by kernel_rfl) (fun K hK => ?_)
      go_wp2_with (go_at_call 50; refine (KC.out).mono ?_; rintro e W1 ⟨rfl, ho1, hb1⟩; replace ho1 : OwnB W1 wr.heap.size ((fromD m bs).line j) := ho1; have HO1 := hide ho1; have HB1 := hide (bseq (Below.refl _ wr).drew hb1 : Below wr.heap.size wr W1); clear ho1 hb1)
      have s1 : W1.cell? ⟨b, 1, none⟩ = some (.slice la j lc) := (HB1.out.cell hbl).trans S0.out
      refine hK.out _ _ (fun _ => s1) ?_
      clear hK K
      refine wpAnyE_do (i := 11) (by kernel_rfl) rfl (by kernel_rfl) (fun K hK => ?_)
      go_wp2_with (fail)
      have hB2 : Below W1.heap.size W1 (W1.alloc (.cells #[.slice (some ⟨wr.heap.size, 0, none⟩) 64 64] 55)) := (Below.refl _ _).alloc (Nat.le_refl _) _
      have hbl1 : b < W1.heap.size := Nat.lt_of_lt_of_le hbl HB1.out.size
      have s2 := (hB2.cell (p := ⟨b, 1, none⟩) hbl1).trans s1
      refine hK.out _ _ (fun _ => s2) ?_
      clear hK K
      refine wpAnyE_take (i := 12) (v := (Value.agg #[.slice (some ⟨W1.heap.size, 0, none⟩) 1 1, .int .i64 (-1)])) rfl (by kernel_rfl) (by kernel_rfl) (by kernel_rfl) (by kernel_rfl) (fun _ _ _ h => h) (Or.inl ⟨by kernel_rfl, fun w' hw => by (go_simp)⟩) s2 ?_
      refine wpAnyE_do (i := 13) (by kernel_rfl) rfl (by kernel_rfl) (fun K hK => ?_)
      go_wp2_with (fail)
      have hB3 : Below (W1.alloc (.cells #[.slice (some ⟨wr.heap.size, 0, none⟩) 64 64] 55)).heap.size (W1.alloc (.cells #[.slice (some ⟨wr.heap.size, 0, none⟩) 64 64] 55)) ((W1.alloc (.cells #[.slice (some ⟨wr.heap.size, 0, none⟩) 64 64] 55)).alloc (.cells #[.slice (some ⟨W1.heap.size, 0, none⟩) 1 1, .int .i64 (-1)] 110)) := (Below.refl _ _).alloc (Nat.le_refl _) _
      have s3 := (hB3.cell (p := ⟨b, 1, none⟩) (by rw [World.size_alloc]; show b < _; omega)).trans s2
      have hB13 : Below wr.heap.size wr ((W1.alloc (.cells #[.slice (some ⟨wr.heap.size, 0, none⟩) 64 64] 55)).alloc (.cells #[.slice (some ⟨W1.heap.size, 0, none⟩) 1 1, .int .i64 (-1)] 110)) := bseq HB1.out (hB2.trans (hB3.mono (by rw [World.size_alloc]; omega)))
      have hd3 := (hB13.block b hbl).trans HF.out.dev
      have hown3 : (((W1.alloc (.cells #[.slice (some ⟨wr.heap.size, 0, none⟩) 64 64] 55)).alloc (.cells #[.slice (some ⟨W1.heap.size, 0, none⟩) 1 1, .int .i64 (-1)] 110))).ownsRow w.heap.size 110 2 (.slice la j lc) j vals := by
        rw [← HLV.out]
        refine ownsRow_of_block HF.out.own (fun g hg => ?_)
        obtain ⟨q, hq⟩ := own_type HF.out.own hg
        exact hB13.block g (lt_of_heap hq)
      have hn3 : ∀ (q : Nat) (u : Value), ([Value.slice (some ⟨W1.heap.size, 0, none⟩) 1 1, .int .i64 (-1)] : List Value)[q]? = some u → (((W1.alloc (.cells #[.slice (some ⟨wr.heap.size, 0, none⟩) 64 64] 55)).alloc (.cells #[.slice (some ⟨W1.heap.size, 0, none⟩) 1 1, .int .i64 (-1)] 110))).cell? ((⟨W1.heap.size + 1, 0, none⟩ : Addr).add q) = some u := fun q u hu => by
        have h5 := heapNew (W1.alloc (.cells #[.slice (some ⟨wr.heap.size, 0, none⟩) 64 64] 55)) (.cells #[.slice (some ⟨W1.heap.size, 0, none⟩) 1 1, .int .i64 (-1)] 110)
        rw [World.size_alloc] at h5
        rw [Addr.add_mid, Nat.zero_add]
        exact (cell8 h5 q).trans (by rw [List.getElem?_toArray]; exact hu)
      refine hK.out _ _ (fun _ => s3) ?_
      clear hK K
      refine wpAnyE_do (i := 14) (by kernel_rfl) rfl (by kernel_rfl) (fun K hK => ?_)
      refine wp_append_at (.tmp 24) (.tmp 33) 82 (by kernel_rfl) w.heap.size 110 it z 2 32 Try.underlying82 hit hz hz2 hz32 hzs (by decide) (.slice la j lc) j vals (by kernel_rfl) hown3 ⟨W1.heap.size + 1, 0, none⟩ 1 1 [.slice (some ⟨W1.heap.size, 0, none⟩) 1 1, .int .i64 (-1)] (by kernel_rfl) rfl hn3 (by simp [Value.oneCell']) (by unfold maxLen; omega) (by omega) (Nat.le_trans HF.out.bel.size hB13.size) ?_
      intro v4 W4 ho4 hg4 _ _
      obtain ⟨va, vc, rfl⟩ := own_slice ho4
      have hd4 : W4.heap[b]? = _ := (hg4.block b (Nat.lt_of_lt_of_le hbl hB13.size) (fun e => by
        obtain ⟨q, hq⟩ := own_type hown3 e.symm
        exact ne_ty hq hd3 (by decide) rfl)).trans hd3
      have s4 : W4.cell? ⟨b, 1, none⟩ = some (.slice la j lc) := by rw [← HLV.out]; exact cell8 hd4 1
      have f4 := froz8 hd4 1
      have HO4 := hide ho4
      have HG4 := hide hg4
      refine hK.out _ _ (fun _ => s4) ?_
      clear hK K ho4 hg4 hd4 hown3 hn3 hd3 hB13 hB3 s3 s2 hB2
      refine wpAnyE_do (i := 15) (by kernel_rfl) rfl (by kernel_rfl) (fun K hK => ?_)
      go_wp2_with (fail)
      refine hK.out _ _ (fun _ => s4) ?_
      clear hK K
      refine wpAnyE_take (i := 16) (v := (Value.pointer (some ⟨b, 1, none⟩))) rfl (by kernel_rfl) (by kernel_rfl) (by kernel_rfl) (by kernel_rfl) (fun _ _ _ h => h) (Or.inl ⟨by kernel_rfl, fun w' hw => by (go_simp)⟩) s4 ?_
      refine wpAnyE_last (by kernel_rfl) rfl (by kernel_rfl) (by kernel_rfl) (fun K hK => ?_)
      go_wp2_with (fail)
      refine hK.out _ _ ?_
      clear hK K
      go_wp2_with (fail)
      go_roundw
      case rel => exact ⟨j + 1, _, _, _, _, int_congrP (by have := HP.out; omega), by omega, RFr.step HF.out HB1.out HO1.out (Nat.le_refl _) (by rw [HLV.out]; exact HG4.out) HO4.out⟩
      case measure =>
        have := HNM.out
        simp [intOf]
        omega
    · have hjm : j = m := by omega
      subst hjm
      have jI : ¬ ((64 * j : Nat) : Int) < (N : Int) := by omega
      rw [hNm] at hF
      obtain ⟨M, hM, hf⟩ := hF.fin H1.out
      have HM := hide hM
      have HFF := hide hf
      have HBL := hide hF.bel
      clear hF hM hf hNm
      go_wp2
      go_ret2
      exact ⟨b, rfl, M, HM.out, HFF.out, HBL.out⟩
end Go.Proofs.Ytmcbkflfopfolaa
