/- Package pmem: bytes are written, word by word, where a loss of power may wait. -/
import Derived.Test.YtcpmofdhljdkdaaPWr
import Derived.Test.YtcpmofdhljdkdaaPOpG
namespace Go.Proofs.Ytcpmofdhljdkdaa
open Go.RowKit Go.Shelf
set_option linter.unusedVariables false
attribute [local go_sem] Oper.semAt_some

/-- A word is written; the operation is not yet counted. -/
def wordA (bs : List Nat) (at_ : Nat) (σ : St) (no : Nat) : St := { wordDo bs at_ σ no with ops := σ.ops }
def wordG (bs : List Nat) (at_ : Nat) (σ : St) (no : Nat) : St := tick (wordA bs at_ σ no)
def writeG (bs : List Nat) (at_ : Nat) (σ : St) (nos : List Nat) : St := nos.foldl (wordG bs at_) σ
theorem writeG_snoc (bs : List Nat) (at_ : Nat) (σ : St) (nos : List Nat) (no : Nat) : writeG bs at_ σ (nos ++ [no]) = wordG bs at_ (writeG bs at_ σ nos) no := by simp [writeG, List.foldl_append]
/-- What stays as it is while words are written. -/
structure LikeG (σ σ' : St) (k : Nat) : Prop where
  ok : σ'.Ok
  n : σ'.n = σ.n
  ops : σ'.ops = σ.ops + k
  arms : σ'.arms = σ.arms
  off : σ'.off = σ.off
  cnt : σ'.cnt = if σ.arms = [] then σ.cnt else σ.cnt + k
theorem writeG_like {bs : List Nat} {at_ : Nat} (hbs : ∀ x ∈ bs, x < 256) : ∀ (nos : List Nat) (σ : St), σ.Ok → (∀ no ∈ nos, no / 8 < σ.n) → σ.ops + nos.length ≤ 274877906944 → LikeG σ (writeG bs at_ σ nos) nos.length
  | [], σ, hok, _, _ => ⟨hok, rfl, rfl, rfl, rfl, by show σ.cnt = if σ.arms = [] then σ.cnt else σ.cnt + 0; split <;> rfl⟩
  | no :: nos, σ, hok, hn, hb => by
    rw [List.length_cons] at hb
    have hi := hn no (by simp)
    obtain ⟨h1, h2⟩ := word_part (at_ := at_) hbs hok hi
    have hok' : (wordG bs at_ σ no).Ok := tick_ok (put_ok hok hi h1 h2 (by omega))
    have ih := writeG_like (at_ := at_) hbs nos (wordG bs at_ σ no) hok' (fun x hx => hn x (by simp [hx])) (by show σ.ops + 1 + nos.length ≤ _; omega)
    refine ⟨ih.ok, ih.n, by rw [List.length_cons]; have h := ih.ops; have h2 : (wordG bs at_ σ no).ops = σ.ops + 1 := rfl; show (writeG bs at_ (wordG bs at_ σ no) nos).ops = _; rw [h, h2]; omega, ih.arms, ih.off, ?_⟩
    have h := ih.cnt
    have h2 : (wordG bs at_ σ no).cnt = if σ.arms = [] then σ.cnt else σ.cnt + 1 := rfl
    have h3 : (wordG bs at_ σ no).arms = σ.arms := rfl
    rw [h3, h2] at h
    show (writeG bs at_ (wordG bs at_ σ no) nos).cnt = _
    rw [h, List.length_cons]
    by_cases e : σ.arms = []
    · simp only [if_pos e]
    · simp only [if_neg e]; omega
/-- What a write leaves, and what is answered. -/
def WrD (bs : List Nat) (at_ : Nat) (σ : St) (nos : List Nat) (c : Int) (σ' : St) : Prop :=
  (c = 0 ∧ σ' = writeG bs at_ σ nos ∧ ∀ af kp, σ.arms = [(af, kp)] → nos ≠ [] → σ.cnt + nos.length < af) ∨
  (c = 5 ∧ ∃ pre no, pre ++ [no] <+: nos ∧ Opd (wordA bs at_ (writeG bs at_ σ pre) no) 5 σ')

set_option maxRecDepth 100000 in
set_option maxHeartbeats 2000000 in
theorem pwriteG_in {w : World} {b at_ cap : Nat} {L : Lay} {σ : St} {a : Option Addr} {bs : List Nat} (h : DevL w b L σ) (hok : σ.Ok) (hN : L.N ≤ σ.ops) (hfw : Few σ) (hcn : σ.cnt + 600000 ≤ 274877906944) (hsl : Sl w a bs) (hcap : bs.length ≤ cap) (hlen : at_ + bs.length ≤ 64 * σ.n) (hops : σ.ops + 600000 ≤ 274877906944)
    (haf : ∀ ad, a = some ad → ad.block < w.heap.size ∧ ¬ Foot b L σ ad.block) :
    CallsIn Fence.wide 3 Try.prog 69 #[.pointer (some ⟨b, 0, none⟩), .int .i64 (at_ : Int), .slice a bs.length cap] w fun e w' => ∃ c σ' L', e = .returned (.int .i64 c) ∧ WrD bs at_ σ (wordsOf at_ bs.length) c σ' ∧ DevL w' b L' σ' ∧ (∀ k, Foot b L' σ' k → Foot b L σ k ∨ w.heap.size ≤ k) ∧ Gr (Foot b L σ) w w' ∧ L'.N ≤ L.N + (wordsOf at_ bs.length).length ∧ L'.KB = L.KB ∧ (c = 0 → SameL L L') := by
  have hbs := hsl.lt
  have hnm := hok.max
  have hlen2 : at_ + bs.length ≤ 4194304 := by omega
  have hwl := wordsOf_len hlen2
  have hO := h.old_
  refine callsIn_of_wp_marks Try.func69 rfl trivial ?_ rfl
  simp only [Try.ntmps69, List.size_toArray, List.length_cons, List.length_nil, Nat.reduceAdd, Nat.reduceSub, Array.replicate_succ, Array.replicate_zero, List.push_toArray, List.append_toArray, List.nil_append, List.cons_append]
  gi_wp2_with (refine ⟨trivial, ?_⟩; gi_at_call 49; refine (inW (words_in (at_ : Int) (bs.length : Int) _)).mono ?_; rintro e w' ⟨rfl, rfl⟩)
  have hB0 : Below w.heap.size w ((((((w.alloc (.cells #[.pointer (some ⟨b, 0, none⟩)] 22)).alloc (.cells #[.int .i64 (at_ : Int)] 3)).alloc (.cells #[.slice a bs.length cap] 52)).alloc (.cells #[.int .i64 0] 24)).alloc (.cells #[.int .i64 (at_ : Int)] 3)).alloc (.cells #[.int .i64 (bs.length : Int)] 3)) := ((((((Below.refl _ w).alloc (Nat.le_refl _) _).alloc (by simp) _).alloc (by simp; omega) _).alloc (by simp; omega) _).alloc (by simp; omega) _).alloc (by simp; omega) _
  have hsz : ((((((w.alloc (.cells #[.pointer (some ⟨b, 0, none⟩)] 22)).alloc (.cells #[.int .i64 (at_ : Int)] 3)).alloc (.cells #[.slice a bs.length cap] 52)).alloc (.cells #[.int .i64 0] 24)).alloc (.cells #[.int .i64 (at_ : Int)] 3)).alloc (.cells #[.int .i64 (bs.length : Int)] 3)).heap.size = w.heap.size + 6 := by simp
  have b3 : Boxed ((((((w.alloc (.cells #[.pointer (some ⟨b, 0, none⟩)] 22)).alloc (.cells #[.int .i64 (at_ : Int)] 3)).alloc (.cells #[.slice a bs.length cap] 52)).alloc (.cells #[.int .i64 0] 24)).alloc (.cells #[.int .i64 (at_ : Int)] 3)).alloc (.cells #[.int .i64 (bs.length : Int)] 3)) w.heap.size 22 (.pointer (some ⟨b, 0, none⟩)) := (((((Boxed.new w 22 (.pointer (some ⟨b, 0, none⟩))).alloc _).alloc _).alloc _).alloc _).alloc _
  have b4 := ((((Boxed.new (w.alloc (.cells #[.pointer (some ⟨b, 0, none⟩)] 22)) 3 (.int .i64 (at_ : Int))).alloc (.cells #[.slice a bs.length cap] 52)).alloc (.cells #[.int .i64 0] 24)).alloc (.cells #[.int .i64 (at_ : Int)] 3)).alloc (.cells #[.int .i64 (bs.length : Int)] 3)
  have b5 := (((Boxed.new ((w.alloc (.cells #[.pointer (some ⟨b, 0, none⟩)] 22)).alloc (.cells #[.int .i64 (at_ : Int)] 3)) 52 (.slice a bs.length cap)).alloc (.cells #[.int .i64 0] 24)).alloc (.cells #[.int .i64 (at_ : Int)] 3)).alloc (.cells #[.int .i64 (bs.length : Int)] 3)
  have b6 := ((Boxed.new (((w.alloc (.cells #[.pointer (some ⟨b, 0, none⟩)] 22)).alloc (.cells #[.int .i64 (at_ : Int)] 3)).alloc (.cells #[.slice a bs.length cap] 52)) 24 (.int .i64 0)).alloc (.cells #[.int .i64 (at_ : Int)] 3)).alloc (.cells #[.int .i64 (bs.length : Int)] 3)
  have b7 := (Boxed.new ((((w.alloc (.cells #[.pointer (some ⟨b, 0, none⟩)] 22)).alloc (.cells #[.int .i64 (at_ : Int)] 3)).alloc (.cells #[.slice a bs.length cap] 52)).alloc (.cells #[.int .i64 0] 24)) 3 (.int .i64 (at_ : Int))).alloc (.cells #[.int .i64 (bs.length : Int)] 3)
  have b8 := Boxed.new (((((w.alloc (.cells #[.pointer (some ⟨b, 0, none⟩)] 22)).alloc (.cells #[.int .i64 (at_ : Int)] 3)).alloc (.cells #[.slice a bs.length cap] 52)).alloc (.cells #[.int .i64 0] 24)).alloc (.cells #[.int .i64 (at_ : Int)] 3)) 3 (.int .i64 (bs.length : Int))
  simp only [World.size_alloc] at b4 b5 b6 b7 b8
  obtain ⟨W0, hW0⟩ : ∃ W0, ((((((w.alloc (.cells #[.pointer (some ⟨b, 0, none⟩)] 22)).alloc (.cells #[.int .i64 (at_ : Int)] 3)).alloc (.cells #[.slice a bs.length cap] 52)).alloc (.cells #[.int .i64 0] 24)).alloc (.cells #[.int .i64 (at_ : Int)] 3)).alloc (.cells #[.int .i64 (bs.length : Int)] 3)) = W0 := ⟨_, rfl⟩
  rw [hW0] at b3 b4 b5 b6 b7 b8 hB0 hsz ⊢
  clear hW0
  have hd0 := h.below hB0
  have hsl0 := hsl.below hB0
  apply rangeX (gf := 70) (lb := #[.pointer (some ⟨w.heap.size + 1 + 1 + 1 + 1, 0, none⟩), .pointer (some ⟨w.heap.size + 1 + 1 + 1 + 1 + 1, 0, none⟩)]) (encs := encI) rfl (enters_of Try.func70 (by kernel_rfl) rfl)
    (words_x HP (fun k => k = w.heap.size + 1 + 1 + 1 + 1 ∨ k = w.heap.size + 1 + 1 + 1 + 1 + 1) (w.heap.size + 1 + 1 + 1 + 1) (w.heap.size + 1 + 1 + 1 + 1 + 1) (at_ : Int) (bs.length : Int) W0 (fun k hk => by omega) (.inl rfl) (.inr rfl) (by unfold HP; decide) b7.cell b8.cell (by omega) (by omega)) (Below.refl _ _) (fun k hk => by omega) (fun _ => rfl)
    (fun pre W' => ((Boxed W' w.heap.size 22 (.pointer (some ⟨b, 0, none⟩)) ∧ Boxed W' (w.heap.size + 1) 3 (.int .i64 (at_ : Int))) ∧ (Boxed W' (w.heap.size + 1 + 1) 52 (.slice a bs.length cap) ∧ Boxed W' (w.heap.size + 1 + 1 + 1) 24 (.int .i64 0) ∧ (Boxed W' (w.heap.size + 1 + 1 + 1 + 1) 3 (.int .i64 (at_ : Int)) ∧ Boxed W' (w.heap.size + 1 + 1 + 1 + 1 + 1) 3 (.int .i64 (bs.length : Int))))) ∧ ((Sl W' a bs ∧ Gr (Foot b L σ) W0 W') ∧ ∃ L', DevL W' b L' (writeG bs at_ σ (pre.map Int.toNat)) ∧ (SameL L L' ∧ L'.N ≤ L.N + pre.length ∧ (∀ k, Foot b L' (writeG bs at_ σ (pre.map Int.toNat)) k → Foot b L σ k ∨ w.heap.size ≤ k) ∧ ∀ af kp, σ.arms = [(af, kp)] → pre ≠ [] → σ.cnt + pre.length < af)))
    (fun c pre W' => (c = .ret ∧ Boxed W' (w.heap.size + 1 + 1 + 1) 24 (.int .i64 5)) ∧ (Gr (Foot b L σ) w W' ∧ ∃ L' σ', DevL W' b L' σ' ∧ ((L'.KB = L.KB ∧ L'.N ≤ L.N + pre.length) ∧ (∃ pr no, pre.map Int.toNat = pr ++ [no] ∧ Opd (wordA bs at_ (writeG bs at_ σ pr) no) 5 σ') ∧ ∀ k, Foot b L' σ' k → Foot b L σ k ∨ w.heap.size ≤ k)))
    (Stab.and (Stab.and (Stab.and (Stab.box _ _ (by omega)) (Stab.box _ _ (by omega))) (Stab.and (Stab.box _ _ (by omega)) (Stab.and (Stab.box _ _ (by omega)) (Stab.and (Stab.box _ _ (by omega)) (Stab.box _ _ (by omega)))))) (Stab.and (Stab.and (stab_sl a bs (by omega) (fun ad he => (haf ad he).1)) (stab_gr (Nat.le_refl _))) (fun s W W' hJ hs => by obtain ⟨L', h1, h2, h3⟩ := hJ; exact ⟨L', stab_dev (σ := fun _ : Unit => writeG bs at_ σ (s.map Int.toNat)) (hO.same h2) (by omega) () W W' h1 hs, h2, h3⟩)))
    (fun c => Stab.and (Stab.and (Stab.pure _) (Stab.box _ _ (by omega))) (Stab.and (stab_gr (by omega)) (fun s W W' hJ hs => by obtain ⟨L', σ', h1, h2⟩ := hJ; exact ⟨L', σ', dev_sub h1 (fun k hk => by rw [h2.1.1] at hk; have := hO.kb k hk; omega) hs, h2⟩)))
    ⟨⟨⟨b3, b4⟩, b5, b6, b7, b8⟩, ⟨hsl0, Gr.refl _ _⟩, L, hd0, SameL.refl L, by simp, fun k hk => .inl hk, fun _ _ _ h => absurd rfl h⟩
  case hassign =>
    intro l' x W' K hK
    simp only [encI]
    gi_wp2
    exact hK
  case hbody =>
    rintro l' pre x W ⟨⟨⟨h3, h4⟩, h5, h6, h7, h8⟩, ⟨hslW, hgW⟩, L', hdW, hsame, hNL, hfoot, _⟩ hpx
    obtain ⟨no, rfl, hno, hno2, hn1, hmem, hpl⟩ := word_told hlen2 hpx
    have hsub : ∀ y ∈ pre.map Int.toNat, y / 8 < σ.n := fun y hy => wordsOf_lt hlen hnm y (by
      obtain ⟨z, hz, rfl⟩ := List.mem_map.1 hy
      exact List.mem_map.2 ⟨z, hpx.subset (List.mem_append_left _ hz), rfl⟩)
    have hlike := writeG_like (at_ := at_) hbs (pre.map Int.toNat) σ hok hsub (by rw [List.length_map]; omega)
    rw [List.length_map] at hlike
    have hsn : writeG bs at_ σ ((pre ++ [(no : Int)]).map Int.toNat) = wordG bs at_ (writeG bs at_ σ (pre.map Int.toNat)) no := by rw [List.map_append, List.map_cons, List.map_nil, writeG_snoc]; rfl
    generalize hgk : writeG bs at_ σ (pre.map Int.toNat) = σk at *
    have HGK := hide hgk
    clear hgk
    have hi : no / 8 < σk.n := by rw [hlike.n]; omega
    obtain ⟨ab, ao, ha, hab, hseg⟩ : ∃ ab ao, a = some ⟨ab, ao, none⟩ ∧ ab < w.heap.size ∧ Seg W ab ao bs := by
      rcases hslW with h1 | ⟨ab, ao, h1, h2, h3⟩
      · rw [h1] at hn1; simp at hn1
      · exact ⟨ab, ao, h1, (haf _ h1).1, h3⟩
    obtain ⟨fr, hfr⟩ : ∃ fr, fr = max at_ (no * 8) := ⟨_, rfl⟩
    have f1 : at_ ≤ fr := by omega
    have f2 : fr < at_ + bs.length := by omega
    have f3 : no * 8 ≤ fr ∧ fr < no * 8 + 8 := by omega
    obtain ⟨hpt1, hpt2⟩ := word_part (at_ := at_) (no := no) hbs hlike.ok hi
    rw [← hfr] at hpt1 hpt2
    obtain ⟨part, hpart⟩ : ∃ part, part = (bs.drop (fr - at_)).take (8 - fr % 8) := ⟨_, rfl⟩
    rw [← hpart] at hpt1 hpt2
    have hword : wordA bs at_ σk no = σk.put (no / 8) (splice (σk.line (no / 8)) (fr % 64) part) := by subst hpart; subst hfr; rfl
    have hpl2 : part.length = min (bs.length - (fr - at_)) (8 - fr % 8) := by rw [hpart, List.length_take, List.length_drop]; omega
    have hsrc : ∀ X : World, X.heap[ab]? = W.heap[ab]? → ∀ j v, (part.map B8)[j]? = some v → X.cell? ((⟨ab, ao + (fr - at_), none⟩ : Addr).add j) = some v := fun X hX j v hv => by
      rw [List.getElem?_map] at hv
      obtain ⟨x, hx, rfl⟩ := Option.map_eq_some_iff.1 hv
      have hj : j < part.length := (List.getElem?_eq_some_iff.1 hx).1
      rw [hpart, List.getElem?_take, if_pos (by omega), List.getElem?_drop] at hx
      rw [Addr.add_mid, Nat.add_assoc]
      exact (World.cell?_of_block (a := ⟨ab, ao + (fr - at_ + j), none⟩) hX).trans (hseg _ _ hx).1
    have off64 : no % 8 * 8 + fr % 8 = fr % 64 := by omega
    have e0 : ((no % 8 : Nat) : Int) = (no : Int) % 8 := by omega
    have e1 : ((fr % 8 : Nat) : Int) = (fr : Int) % 8 := by omega
    have e2 : ((fr - at_ : Nat) : Int) = (fr : Int) - (at_ : Int) := by omega
    have hll := line_len hlike.ok hi
    have hlr := line_range hdW hlike.ok hi
    have c3 := h3.cell
    have c4 := h4.cell
    have c5 := h5.cell
    have c1 := hdW.c1
    have l0 := fun X => index_line L'.sb (no / 8) σk.n σk.n hi X
    have hl64 : ((σk.line (no / 8)).map B8).length = 64 := by rw [List.length_map, hll]
    have si : (Try.prog.info? 106).map (·.size) = some ((σk.line (no / 8)).map B8).toArray.size := by rw [List.size_toArray, hl64]; kernel_rfl
    have S1 := hide (all_oneCell_toArray (B8_cell (σk.line (no / 8))))
    have HL64 := hide hl64
    have SI := hide si
    clear hl64
    obtain ⟨Z, hzl, hz⟩ := zero_content
    have HZ := hide hz
    have HZL := hide hzl
    have TH : Hid (∀ X : World, (X.alloc (.cells Z.toArray 106)).there X.heap.size 0 ((σk.line (no / 8)).map B8).toArray.size) := fun X => there_row (heapNew X _) 0 _ (by rw [List.size_toArray, HL64.out, hzl]; omega)
    clear hz hzl
    have kp := fun X => part_any no at_ X (by omega) (by omega)
    rw [← hfr] at kp
    have KP := hide kp
    clear kp
    have HLR := hide hlr
    have HLL := hide hll
    have HD := hide hdW
    have HG := hide hgW
    have HSL := hide hslW
    have HF := hide hfoot
    have HS := hide hsame
    have HK := hide hlike
    have H3 := hide h3
    have H4 := hide h4
    have H5 := hide h5
    have H6 := hide h6
    have H7 := hide h7
    have H8 := hide h8
    have HSN := hide hsn
    have HSRC := hide hsrc
    have HPL2 := hide hpl2
    have HOFF := hide off64
    have HPT1 := hide hpt1
    have HPT2 := hide hpt2
    have HWORD := hide hword
    have HA := hide ha
    have HAB := hide hab
    have HHI := hide hi
    have F1 := hide f1
    have F2 := hide f2
    have F3 := hide f3
    have E0 := hide e0
    have E1 := hide e1
    have E2 := hide e2
    have HC1 := hide c1
    have frI : (fr : Int) ≤ 4194304 := by omega
    have atI : (at_ : Int) ≤ (fr : Int) := by omega
    clear hsrc hpl2 off64 hpt1 hpt2 hword hab hfr hpart f1 f2 f3 e0 e1 e2 hseg
    rw [ha] at c5
    clear ha
    have HNO := hide hno
    have HNO2 := hide hno2
    clear si hlr hll hdW hgW hslW hfoot hsame hlike hpx hsub h3 h4 h5 h6 h7 h8 hsn hmem hno hno2
    gi_wp2_with (first | (refine ⟨trivial, ?_⟩; gi_at_call 50; refine (inR (KP.out _)).mono ?_; rintro e W1 ⟨rfl, rfl⟩) | (refine wpListIn_load_mid rfl 106 (.tmp 30) rfl L'.sb (no / 8 * 64) (by kernel_rfl) ((σk.line (no / 8)).map B8) (.array 8 104) HLR.out (by kernel_rfl) rfl (by rw [List.length_map, HLL.out]; kernel_rfl) ?_) | (refine wpListIn_alloc_row rfl 106 rfl Z (HZ.out _) ?_) | (refine wpListIn_store_mid rfl 106 (.tmp 11) (.tmp 31) rfl W1.heap.size 0 ((σk.line (no / 8)).map B8).toArray (by kernel_rfl) (by kernel_rfl) (TH.out W1) SI.out S1.out ?_; have hnew := new_row (W := W1) (cur := Z) (vs := (σk.line (no / 8)).map B8) (t := 106) (HL64.out.trans HZL.out.symm); have HNEW := hide hnew; clear hnew))
    go_frame
    generalize hX : (W1.alloc (.cells Z.toArray 106)).setCells W1.heap.size 0 ((σk.line (no / 8)).map B8) = X at *
    obtain ⟨hx1, hx2, hx3⟩ := HNEW.out
    clear hX HNEW
    have TM : Hid ((fr : Int).tmod 8 = (fr : Int) % 8) := Int.tmod_eq_emod_of_nonneg (by omega)
    have WR : Hid (IntKind.i64.wrap ((fr : Int) - (at_ : Int)) = (fr : Int) - (at_ : Int)) := by show IntKind.i64.wrap _ = _; rw [IntKind.wrap_i64]; omega
    have SB1 : Hid (fr - at_ < bs.length) := by have := F1.out; have := F2.out; show _ < _; omega
    have x3 := below_boxedP hx2 H3.out
    have x4 := below_boxedP hx2 H4.out
    have x5 := below_boxedP hx2 H5.out
    rw [HA.out] at x5
    have hs1 : w.heap.size + 6 ≤ W1.heap.size := by have h2 := HG.out.size; omega
    have hxb : X.heap[ab]? = W1.heap[ab]? := hx2.block ab (by have := HAB.out; omega)
    have yg : Gr (fun k => k = W1.heap.size) X (X.drew.setRow W1.heap.size (splice ((σk.line (no / 8)).map B8) (no % 8 * 8 + fr % 8) (part.map B8)).toArray) := Gr.setRow X.drew W1.heap.size _ rfl
    have ne1 : w.heap.size + 1 ≠ W1.heap.size := by omega
    have ne2 : w.heap.size + 1 + 1 ≠ W1.heap.size := by omega
    have ne0 : w.heap.size ≠ W1.heap.size := by omega
    have y3 := yg.box x3 ne0
    have y4 := yg.box x4 ne1
    have y5 := yg.box x5 ne2
    have yn : (X.drew.setRow W1.heap.size (splice ((σk.line (no / 8)).map B8) (no % 8 * 8 + fr % 8) (part.map B8)).toArray).heap[W1.heap.size]? = some (.cells ((splice (σk.line (no / 8)) (fr % 64) part).map B8).toArray 106 (0, 0)) := by rw [heap_setRow X.drew W1.heap.size _ _ _ _ hx1, HOFF.out, splice_map]
    have s0 : X.drew.cell? ⟨w.heap.size + 1, 0, none⟩ = some (.int .i64 (at_ : Int)) ∧ X.drew.cell? ⟨w.heap.size + 1 + 1, 0, none⟩ = some (.slice (some ⟨ab, ao, none⟩) bs.length cap) := ⟨x4.cell, x5.cell⟩
    have s9 : (X.drew.setRow W1.heap.size (splice ((σk.line (no / 8)).map B8) (no % 8 * 8 + fr % 8) (part.map B8)).toArray).cell? ⟨w.heap.size + 1, 0, none⟩ = some (.int .i64 (at_ : Int)) ∧ (X.drew.setRow W1.heap.size (splice ((σk.line (no / 8)).map B8) (no % 8 * 8 + fr % 8) (part.map B8)).toArray).cell? ⟨w.heap.size + 1 + 1, 0, none⟩ = some (.slice (some ⟨ab, ao, none⟩) bs.length cap) := ⟨y4.cell, y5.cell⟩
    have hsr := HSRC.out X.drew hxb
    have hpl3 := HPL2.out
    have hfit : no % 8 * 8 + fr % 8 + (part.map B8).length ≤ ((σk.line (no / 8)).map B8).length := by rw [List.length_map, List.length_map, HLL.out]; omega
    have hcl : (part.map B8).length = Nat.min (bs.length - (fr - at_)) (8 - fr % 8) := by rw [List.length_map, hpl3]
    have HSR := hide hsr
    have HFIT := hide hfit
    have HCL := hide hcl
    have HX1 := hide hx1
    have S9 := hide s9
    have HYN := hide yn
    have HYG := hide yg
    have HX2 := hide hx2
    have Y3 := hide y3
    have HS1 := hide hs1
    clear hsr hfit hcl hx1 s9 yn yg hx2 x3 x4 x5 y3 y4 y5 hpl3 hxb hx3 ne0 ne1 ne2 hs1
    refine region_heldR (fun X => X.cell? ⟨w.heap.size + 1, 0, none⟩ = some (.int .i64 (at_ : Int)) ∧ X.cell? ⟨w.heap.size + 1 + 1, 0, none⟩ = some (.slice (some ⟨ab, ao, none⟩) bs.length cap)) (by kernel_rfl) (by kernel_rfl) (fun _ _ h => h) s0 (fun hS => ?_)
    refine wpAnyH_take (i := 0) (v := (.int .i64 ((no : Int) % 8))) rfl (by kernel_rfl) (by kernel_rfl) (by kernel_rfl) (fun _ _ _ h => h) (Or.inl ⟨by kernel_rfl, fun w' hw => by (go_simp)⟩) hS ?_
    refine wpAnyH_take (i := 1) (v := (.pointer (some ⟨W1.heap.size, no % 8 * 8, none⟩))) rfl (by kernel_rfl) (by kernel_rfl) (by kernel_rfl) (fun _ _ _ h => h) (Or.inl ⟨by kernel_rfl, fun w' hw => by (have e := index_word W1.heap.size 0 (no % 8) (by omega) w'; rw [E0.out, Nat.zero_add] at e; go_simp)⟩) hS ?_
    refine wpAnyH_take (i := 2) (v := (.int .i64 (fr : Int))) rfl (by kernel_rfl) (by kernel_rfl) (by kernel_rfl) (fun _ _ _ h => h) (Or.inl ⟨by kernel_rfl, fun w' hw => by (go_simp)⟩) hS ?_
    refine wpAnyH_take (i := 3) (v := (.int .i64 ((fr : Int) % 8))) rfl (by kernel_rfl) (by kernel_rfl) (by kernel_rfl) (fun _ _ _ h => h) (Or.inl ⟨by kernel_rfl, fun w' hw => by (have tm := TM.out; go_simp)⟩) hS ?_
    refine wpAnyH_take (i := 4) (v := (.slice (some ⟨W1.heap.size, no % 8 * 8 + fr % 8, none⟩) (8 - fr % 8) (8 - fr % 8))) rfl (by kernel_rfl) (by kernel_rfl) (by kernel_rfl) (fun _ _ _ h => h) (Or.inl ⟨by kernel_rfl, fun w' hw => by (have e := slice_word W1.heap.size (no % 8 * 8) (fr % 8) (by omega) w'; rw [E1.out] at e; go_simp)⟩) hS ?_
    refine wpAnyH_take (i := 5) (v := (.slice (some ⟨ab, ao, none⟩) bs.length cap)) rfl (by kernel_rfl) (by kernel_rfl) (by kernel_rfl) (fun _ _ _ h => h) (Or.inl ⟨by kernel_rfl, fun w' hw => by (obtain ⟨z0, z1⟩ := hw; go_simp)⟩) hS ?_
    refine wpAnyH_take (i := 6) (v := (.int .i64 (fr : Int))) rfl (by kernel_rfl) (by kernel_rfl) (by kernel_rfl) (fun _ _ _ h => h) (Or.inl ⟨by kernel_rfl, fun w' hw => by (go_simp)⟩) hS ?_
    refine wpAnyH_take (i := 7) (v := (.int .i64 (at_ : Int))) rfl (by kernel_rfl) (by kernel_rfl) (by kernel_rfl) (fun _ _ _ h => h) (Or.inl ⟨by kernel_rfl, fun w' hw => by (obtain ⟨z0, z1⟩ := hw; go_simp)⟩) hS ?_
    refine wpAnyH_take (i := 8) (v := (.int .i64 ((fr : Int) - (at_ : Int)))) rfl (by kernel_rfl) (by kernel_rfl) (by kernel_rfl) (fun _ _ _ h => h) (Or.inl ⟨by kernel_rfl, fun w' hw => by (have wr := WR.out; go_simp)⟩) hS ?_
    refine wpAnyH_take (i := 9) (v := (.slice (some ⟨ab, ao + (fr - at_), none⟩) (bs.length - (fr - at_)) (cap - (fr - at_)))) rfl (by kernel_rfl) (by kernel_rfl) (by kernel_rfl) (fun _ _ _ h => h) (Or.inl ⟨by kernel_rfl, fun w' hw => by (have e := slice_bytes ab ao (fr - at_) bs.length cap SB1.out hcap w'; rw [E2.out] at e; go_simp)⟩) hS ?_
    refine wpAnyH_op (i := 10) (by kernel_rfl) rfl (by kernel_rfl) (by kernel_rfl) (wp_copy (.tmp 36) (.tmp 41) 52 52 (by kernel_rfl) 5 Try.underlying52 (by kernel_rfl) W1.heap.size (no % 8 * 8 + fr % 8) (8 - fr % 8) (8 - fr % 8) ⟨ab, ao + (fr - at_), none⟩ (bs.length - (fr - at_)) (cap - (fr - at_)) (by kernel_rfl) (by kernel_rfl) ((σk.line (no / 8)).map B8) 106 HX1.out (part.map B8) HCL.out HSR.out HFIT.out (B8_cell part) ⟨S9.out, ?_⟩)
    simp only [Act.put, List.getElem_toArray, List.getElem_cons_zero, List.getElem_cons_succ, List.setIfInBounds_toArray, List.set_cons_zero, List.set_cons_succ]
    generalize hY : (X.drew.setRow W1.heap.size (splice ((σk.line (no / 8)).map B8) (no % 8 * 8 + fr % 8) (part.map B8)).toArray) = Y at *
    clear hY
    obtain ⟨nx, hnx⟩ : ∃ nx, nx = splice (σk.line (no / 8)) (fr % 64) part := ⟨_, rfl⟩
    rw [← hnx] at HYN HPT1 HPT2 HWORD
    have HNX := hide hnx
    clear hnx
    have hdX := HD.out.below HX2.out
    have hdY : DevL Y b L' σk := hdX.keep (fun k hk => HYG.out.block (hdX.foot_is hk) (fun e => by have := HD.out.foot_is hk; omega))
    have hOL := hO.same HS.out
    have hnl := HK.out
    have kc := pchg_any hdY hnl.ok HHI.out HPT1.out (by omega)
    have e3 : ((no / 8 : Nat) : Int) = (no : Int) / 8 := by omega
    rw [e3] at kc
    have hrn := range_all HYN.out
    have cy3 := Y3.out.cell
    have hfk : Few (σk.put (no / 8) nx) := ⟨by show σk.arms = [] ∨ _; rw [show (σk.put (no / 8) nx).arms = σ.arms from hnl.arms, hnl.arms]; exact hfw.one, by show σk.cnt < _; rw [hnl.cnt]; split <;> omega⟩
    have hpk := put_ok hnl.ok HHI.out HPT1.out HPT2.out (by rw [hnl.ops]; omega)
    have hok2 : σk.ops < 274877906944 := by rw [hnl.ops]; omega
    have HFK := hide hfk
    have HPK := hide hpk
    have HOP2 := hide hok2
    clear hfk hpk hok2
    have KC := hide kc
    have HRN := hide hrn
    have HDY := hide hdY
    have HOL := hide hOL
    have nf : ∀ (g : Nat) (t : TypeId) (v : Value), Boxed Y g t v → w.heap.size ≤ g → ¬ HP t → ¬ Foot b L' σk g := fun g t v hb hg ht => box_foot hdY hOL hb hg ht
    have NF := hide nf
    clear kc hrn hdY hdX hOL hnl e3 nf
    have N6 := hide (box_foot HD.out HOL.out H6.out (by omega) (by unfold HP; decide))
    have HFI := Classical.em (fires (σk.put (no / 8) nx))
    rcases HFI with hF | hF
    · have HF0 := hide hF
      clear hF
      gi_wp2_with (first | (refine wpListIn_load_mid rfl 106 (.tmp 11) rfl W1.heap.size 0 (by kernel_rfl) (nx.map B8) (.array 8 104) HRN.out (by kernel_rfl) rfl (by rw [List.length_map, HPT1.out]; kernel_rfl) ?_) | (refine ⟨trivial, ?_⟩; gi_at_call 78; refine (inR (KC.out)).mono ?_; rintro e Y2 ⟨rfl, L2, hd2, hf2, hg2, hN2, hs2⟩; have y32 := hg2.box Y3.out (NF.out _ _ _ Y3.out (Nat.le_refl _) (by unfold HP; decide)); have cy32 := y32.cell; have KO := hide (poper_yes hd2 HPK.out HFK.out HOP2.out HF0.out); have HD2 := hide hd2; have HF2 := hide hf2; have HG2 := hide hg2; have HN2 := hide hN2; have HS2 := hide hs2; clear hd2 hf2 hg2 hN2 hs2 cy3) | (refine ⟨trivial, ?_⟩; gi_at_call 62; refine (inR (KO.out)).mono ?_; rintro e Y4 ⟨rfl, σ4, L4, ho4, hd4, hf4, hg4, hn4, hk4⟩; have g1 : Gr (Foot b L' σk) W1 Y4 := ((((Gr.of_below HX2.out : Gr (Foot b L' σk) W1 X).trans HYG.out (fun i e => .inr (by omega))).trans HG2.out (fun i h => .inl h)).trans hg4 (fun i h => (HF2.out i h).imp id (fun h5 => by have h6 := HYG.out.size; have h7 := HX2.out.size; omega))); have y6 := g1.box H6.out N6.out; have cy6 := y6.cell; have zy6 := y6.frozen; have Y6 := hide y6; have G1 := hide g1; have HO4 := hide ho4; have HD4 := hide hd4; have HF4 := hide hf4; have HN4 := hide hn4; have HK4 := hide hk4; have HG4 := hide hg4; clear ho4 hd4 hf4 hg4 hn4 hk4 g1 y6))
      have hdW := HD.out
      have hOL := HOL.out
      have n3 := box_foot hdW hOL H3.out (by omega) (by unfold HP; decide)
      have n4 := box_foot hdW hOL H4.out (by omega) (by unfold HP; decide)
      have n5 := box_foot hdW hOL H5.out (by omega) (by unfold HP; decide)
      have n6 := box_foot hdW hOL H6.out (by omega) (by unfold HP; decide)
      have n7 := box_foot hdW hOL H7.out (by omega) (by unfold HP; decide)
      have n8 := box_foot hdW hOL H8.out (by omega) (by unfold HP; decide)
      have hnew : ∀ i, Foot b L' σk i → i < w.heap.size ∨ w.heap.size + 6 ≤ i := fun i hi => by
        have q3 : i ≠ w.heap.size := fun e => n3 (e ▸ hi)
        have q4 : i ≠ w.heap.size + 1 := fun e => n4 (e ▸ hi)
        have q5 : i ≠ w.heap.size + 1 + 1 := fun e => n5 (e ▸ hi)
        have q6 : i ≠ w.heap.size + 1 + 1 + 1 := fun e => n6 (e ▸ hi)
        have q7 : i ≠ w.heap.size + 1 + 1 + 1 + 1 := fun e => n7 (e ▸ hi)
        have q8 : i ≠ w.heap.size + 1 + 1 + 1 + 1 + 1 := fun e => n8 (e ▸ hi)
        omega
      have g1 := G1.out
      have hz1 := HYG.out.size
      have hz2 := HX2.out.size
      have hz3 := HS1.out
      have hz4 := HG2.out.size
      have hft : ∀ k, Foot b L4 σ4 k → Foot b L' σk k ∨ w.heap.size + 6 ≤ k := fun k hk => by
        rcases HF4.out k hk with h3 | h3
        · rcases HF2.out k h3 with h4 | h4
          · exact .inl h4
          · exact .inr (by omega)
        · exact .inr (by omega)
      have hd5 : DevL (Y4.setCell ⟨w.heap.size + 1 + 1 + 1, 0, none⟩ (.int .i64 5)) b L4 σ4 := HD4.out.keep (fun k hk => heap_set_ne Y4 _ 0 k _ (fun e => by
        rcases hft k hk with h3 | h3
        · exact n6 (e ▸ h3)
        · omega))
      have g0 : Gr (Foot b L σ) w W1 := (Gr.of_below hB0).trans HG.out (fun i h => .inl h)
      have hfo : ∀ i, Foot b L' σk i → Foot b L σ i ∨ w.heap.size ≤ i := HF.out
      refine ⟨(g1.kp (fun k o hk hf => ⟨fun hn => by rcases hn with e | e; exact n7 (e ▸ hf); exact n8 (e ▸ hf), ?_⟩)).trans (Kp.set _ (fun h => by omega) (by omega)), ⟨rfl, Y6.out.set _⟩, (g0.trans g1 hfo).trans (Gr.set Y4 _ 0 _ (X := fun k => k = w.heap.size + 1 + 1 + 1) rfl) (fun i h => .inr (by omega)), L4, σ4, hd5, ⟨HK4.out.trans (HS2.out.2.2.2.2.trans HS.out.2.2.2.2), ?_⟩, ⟨pre.map Int.toNat, no, by simp, ?_⟩, fun k hk => ?_⟩
      · rcases foot_cases hdW hOL hf with h1 | ⟨o', h1, h2⟩
        · exact .inl (by omega)
        · rw [hk] at h1; cases h1; exact .inr h2
      · have h2 := HN2.out; have h3 := HN4.out; rw [List.length_append, List.length_singleton]; omega
      · rw [HGK.out, HWORD.out]; exact HO4.out
      · rcases hft k hk with h3 | h3
        · exact HF.out k h3
        · exact .inr (by omega)
    · have HF0 := hide hF
      clear hF
      gi_wp2_with (first | (refine wpListIn_load_mid rfl 106 (.tmp 11) rfl W1.heap.size 0 (by kernel_rfl) (nx.map B8) (.array 8 104) HRN.out (by kernel_rfl) rfl (by rw [List.length_map, HPT1.out]; kernel_rfl) ?_) | (refine ⟨trivial, ?_⟩; gi_at_call 78; refine (inR (KC.out)).mono ?_; rintro e Y2 ⟨rfl, L2, hd2, hf2, hg2, hN2, hs2⟩; have y32 := hg2.box Y3.out (NF.out _ _ _ Y3.out (Nat.le_refl _) (by unfold HP; decide)); have cy32 := y32.cell; have KO := hide (poper_no hd2 HPK.out HFK.out HOP2.out HF0.out); have HD2 := hide hd2; have HF2 := hide hf2; have HG2 := hide hg2; have HN2 := hide hN2; have HS2 := hide hs2; clear hd2 hf2 hg2 hN2 hs2 cy3) | (refine ⟨trivial, ?_⟩; gi_at_call 62; refine (inR (KO.out)).mono ?_; rintro e Y4 ⟨rfl, hd4, hg4⟩; have HG4 := hide hg4; have HD4 := hide hd4; clear hg4 hd4))
      have hdW := HD.out
      have hOL := HOL.out
      have n3 := box_foot hdW hOL H3.out (by omega) (by unfold HP; decide)
      have n4 := box_foot hdW hOL H4.out (by omega) (by unfold HP; decide)
      have n5 := box_foot hdW hOL H5.out (by omega) (by unfold HP; decide)
      have n6 := box_foot hdW hOL H6.out (by omega) (by unfold HP; decide)
      have n7 := box_foot hdW hOL H7.out (by omega) (by unfold HP; decide)
      have n8 := box_foot hdW hOL H8.out (by omega) (by unfold HP; decide)
      have hnew : ∀ i, Foot b L' σk i → i < w.heap.size ∨ w.heap.size + 6 ≤ i := fun i hi => by
        have q3 : i ≠ w.heap.size := fun e => n3 (e ▸ hi)
        have q4 : i ≠ w.heap.size + 1 := fun e => n4 (e ▸ hi)
        have q5 : i ≠ w.heap.size + 1 + 1 := fun e => n5 (e ▸ hi)
        have q6 : i ≠ w.heap.size + 1 + 1 + 1 := fun e => n6 (e ▸ hi)
        have q7 : i ≠ w.heap.size + 1 + 1 + 1 + 1 := fun e => n7 (e ▸ hi)
        have q8 : i ≠ w.heap.size + 1 + 1 + 1 + 1 + 1 := fun e => n8 (e ▸ hi)
        omega
      have hg4 := HG4.out
      have g1 : Gr (Foot b L' σk) W1 Y4 := (((Gr.of_below HX2.out : Gr (Foot b L' σk) W1 X).trans HYG.out (fun i e => .inr (by omega))).trans HG2.out (fun i h => .inl h)).trans hg4 (fun i h => (HF2.out i h).imp id (fun h5 => by have h6 := HYG.out.size; have h7 := HX2.out.size; omega))
      refine ⟨g1.kp (fun k o hk hf => ⟨fun hn => by rcases hn with e | e; exact n7 (e ▸ hf); exact n8 (e ▸ hf), ?_⟩), ⟨⟨g1.box H3.out n3, g1.box H4.out n4⟩, g1.box H5.out n5, g1.box H6.out n6, g1.box H7.out n7, g1.box H8.out n8⟩, ⟨g1.sl HSL.out (fun ad he hf => ?_), HG.out.trans g1 (fun i hi => ?_)⟩, L2, ?_, HS.out.trans HS2.out, ?_, fun k hk => ?_, fun af kp e _ => ?_⟩
      · rcases foot_cases hdW hOL hf with h1 | ⟨o', h1, h2⟩
        · exact .inl (by omega)
        · rw [hk] at h1; cases h1; exact .inr h2
      · obtain ⟨h1, h2⟩ := haf ad he
        rcases HF.out _ hf with h3 | h3
        · exact h2 h3
        · omega
      · rcases HF.out i hi with h3 | h3
        · exact .inl h3
        · rcases hnew i hi with h4 | h4
          · omega
          · exact .inr (by omega)
      · rw [HSN.out]; show DevL Y4 b L2 (tick (wordA bs at_ σk no)); rw [HWORD.out]; exact HD4.out
      · have h2 := HN2.out; rw [List.length_append, List.length_singleton]; omega
      · rw [HSN.out] at hk
        have hk : Foot b L2 (tick (wordA bs at_ σk no)) k := hk
        rw [HWORD.out] at hk
        rcases HF2.out k hk with h3 | h3
        · exact HF.out k h3
        · have h4 := HYG.out.size; have h5 := HX2.out.size; have h6 := HS1.out; exact .inr (by omega)
      · refine Classical.byContradiction fun hc => HF0.out ⟨af, kp, HK.out.arms.trans e, ?_⟩
        show af ≤ σk.cnt + 1
        rw [HK.out.cnt, if_neg (by rw [e]; simp)]
        rw [List.length_append, List.length_singleton] at hc
        omega
  case hdone =>
    rintro D W hD ⟨⟨⟨h3, h4⟩, h5, h6, h7, h8⟩, ⟨hslW, hgW⟩, L', hdW, hsame, hNL, hfoot, hpu⟩ hK
    have hOL := hO.same hsame
    have n6 := box_foot hdW hOL h6 (by omega) (by unfold HP; decide)
    have c6 := h6.cell
    have z6 := h6.frozen
    have hw : (unitsV 8 (at_ : Int) (bs.length : Int)).map Int.toNat = wordsOf at_ bs.length := rfl
    rw [hw] at hdW hfoot
    have hl : (unitsV 8 (at_ : Int) (bs.length : Int)).length = (wordsOf at_ bs.length).length := by unfold wordsOf; rw [List.length_map]
    rw [hl] at hNL
    have HD := hide hdW
    have HG := hide hgW
    have HF := hide hfoot
    have HS := hide hsame
    rw [hl] at hpu
    have HPU := hide hpu
    have HK := hide hK
    have H6 := hide h6
    clear hpu h3 h4 h5 h6 h7 h8 hslW hgW hdW hsame hfoot hK hw hl
    gi_wp2
    have hne : D ≠ w.heap.size + 1 + 1 + 1 := by omega
    have hK' : (W.setCell ⟨w.heap.size + 1 + 1 + 1, 0, none⟩ (.int .i64 0)).heap[D]? = some (.deferred (some [])) := (heap_set_ne W _ 0 D _ hne).trans HK.out
    refine ⟨by simp, .inl ⟨_, _, rfl, run_takeDeferred hK', ?_⟩⟩
    have hd1 : DevL (W.setCell ⟨w.heap.size + 1 + 1 + 1, 0, none⟩ (.int .i64 0)) b L' (writeG bs at_ σ (wordsOf at_ bs.length)) := HD.out.keep (fun k hk => heap_set_ne W _ 0 k _ (fun e => n6 (e ▸ hk)))
    have hgr : Gr (Foot b L σ) w ((W.setCell ⟨w.heap.size + 1 + 1 + 1, 0, none⟩ (.int .i64 0)).putObj D (.deferred none)) := by
      have g1 : Gr (Foot b L σ) w W := (Gr.of_below hB0).trans HG.out (fun i h => .inl h)
      have g2 : Gr (fun k => k = w.heap.size + 1 + 1 + 1) W (W.setCell ⟨w.heap.size + 1 + 1 + 1, 0, none⟩ (.int .i64 0)) := Gr.set W _ 0 _ rfl
      have g3 : Gr (fun k => k = D) (W.setCell ⟨w.heap.size + 1 + 1 + 1, 0, none⟩ (.int .i64 0)) ((W.setCell ⟨w.heap.size + 1 + 1 + 1, 0, none⟩ (.int .i64 0)).putObj D (.deferred none)) := Gr.of_grown (grownBy_putObj' _ D _) (fun k hk => .inl (by cases hk; rfl))
      exact (g1.trans g2 (fun i h => .inr (by omega))).trans g3 (fun i h => .inr (by omega))
    refine ⟨_, results_boxP rfl _ _ (w.heap.size + 1 + 1 + 1) _ _ rfl ((World.putObj_heap_other (Ne.symm hne)).trans (H6.out.set _)) (fun _ h => loadE h), 0, _, L', rfl, .inl ⟨rfl, rfl, fun af kp e h => HPU.out af kp e (fun e2 => h (by unfold wordsOf; rw [e2]; rfl))⟩, hd1.put_ hK' _, HF.out, hgr, hNL, HS.out.2.2.2.2, fun _ => HS.out⟩
  case hstop =>
    rintro D c pre W2 hD hpre ⟨⟨rfl, h6⟩, hgW, L', σ', hdW, ⟨hkb, hNL⟩, ⟨pr, no, hpn, hop⟩, hfoot⟩ hK
    have HD := hide hdW
    have HG := hide hgW
    have HF := hide hfoot
    have HOP := hide hop
    have HPN := hide hpn
    have HPR := hide hpre
    have HNL := hide hNL
    have HKB := hide hkb
    have H6 := hide h6
    clear h6 hgW hdW hfoot hop hpn hpre hNL hkb
    gi_wp2
    have hne : D ≠ w.heap.size + 1 + 1 + 1 := by omega
    refine ⟨by simp, .inl ⟨_, _, rfl, run_takeDeferred hK, ?_⟩⟩
    have hgr : Gr (Foot b L σ) w (W2.putObj D (.deferred none)) := HG.out.trans (Gr.of_grown (X := fun k => k = D) (grownBy_putObj' _ D _) (fun k hk => .inl (by cases hk; rfl))) (fun i h => .inr (by omega))
    have hpl := HPR.out.length_le
    have hl : (unitsV 8 (at_ : Int) (bs.length : Int)).length = (wordsOf at_ bs.length).length := by unfold wordsOf; rw [List.length_map]
    have h9 := HNL.out
    refine ⟨_, results_boxP rfl _ _ (w.heap.size + 1 + 1 + 1) _ _ rfl ((World.putObj_heap_other (Ne.symm hne)).trans H6.out) (fun _ h => loadE h), 5, σ', L', rfl, .inr ⟨rfl, pr, no, ?_, HOP.out⟩, HD.out.put_ hK _, HF.out, hgr, by omega, HKB.out, fun h => by cases h⟩
    have := HPR.out.map Int.toNat
    rw [HPN.out] at this
    exact this
end Go.Proofs.Ytcpmofdhljdkdaa
