/- SuperLost answers true for all images, numbers of operations and lists of what lines keep: a Format within which the power goes is done, or is seen not to be; what was answered with OK stays. -/
import Derived.Test.YtmljacjbpcgijaaPKpM
import Derived.Test.YtmljacjbpcgijaaPNew
import Derived.Test.YtmljacjbpcgijaaRowsHM
import Derived.Laws.IdiomStrings
import Derived.Test.YtmljacjbpcgijaaQByMM
import Derived.Test.YtmljacjbpcgijaaPImg
import Derived.Deep.Cut
namespace Go.Proofs.Ytmljacjbpcgijaa
open Go.RowKit Go.Shelf
set_option linter.unusedVariables false

theorem add_zero (ad : Addr) : ad.add 0 = ad := by
  obtain ⟨b, o, sp⟩ := ad
  cases sp <;> simp [Addr.add]
theorem cut_intsG (ad : Addr) (m nk cap : Nat) (hm : m ≤ nk) (hc : nk ≤ cap) (w : World) : (Instr.sliceAt 25 (.slice (some ad) nk cap) none (some (.int .i64 (m : Int))) none).run Try.prog w = .ok (.slice (some ad) m cap) w := by
  obtain ⟨i, h1, _⟩ := infoInt2
  have hc2 : m ≤ cap := by omega
  simp [Instr.sliceAt, Instr.slice, Sem.run_bind, run_underlying Try.underlying25, Instr.sliceBounds, Instr.sliceBound, asIntOf, sizeOf, typeInfo, h1, add_zero, hc2]
set_option maxRecDepth 100000 in
/-- A list of ints of its own. -/
theorem pcloneG (ad : Addr) (m cp : Nat) (kp : List Nat) (w : World) (hm : kp.length = m) (hn : ∀ j k : Nat, kp[j]? = some k → w.cell? (ad.add j) = some (.int .i64 (k : Int))) (hms : m ≤ 65536) :
    Calls Try.prog 25 #[.slice (some ad) m cp] w fun e w' => ∃ gn cn, e = .returned (.slice (some ⟨gn, 0, none⟩) m cn) ∧ w.heap.size ≤ gn ∧ (∃ c, w'.heap[gn]? = some (.cells c 3 (0, 0))) ∧ (∀ j k : Nat, kp[j]? = some k → w'.cell? ⟨gn, j, none⟩ = some (.int .i64 (k : Int))) ∧ Below w.heap.size w w' := by
  obtain ⟨it, hit, hz, h65, h72⟩ := infoInt2
  obtain ⟨news, hnews⟩ : ∃ news, news = kp.map (fun k : Nat => Value.int .i64 (k : Int)) := ⟨_, rfl⟩
  have hl : news.length = m * 1 := by rw [hnews, List.length_map, hm, Nat.mul_one]
  have hA : Below w.heap.size w (w.alloc (.cells #[] 3)) := (Below.refl _ w).alloc (Nat.le_refl _) _
  have ho : (w.alloc (.cells #[] 3)).ownsRow 0 3 1 (.slice (some ⟨w.heap.size, 0, none⟩) 0 0) 0 [] := ⟨rfl, .inr ⟨w.heap.size, 0, #[], rfl, Nat.zero_le _, heapNew w _, Nat.le_refl _, Nat.zero_le _, rfl, rfl⟩⟩
  have hn' : ∀ j u, news[j]? = some u → (w.alloc (.cells #[] 3)).cell? (ad.add j) = some u := fun j u hu => by
    rw [hnews, List.getElem?_map] at hu
    obtain ⟨k, hk, rfl⟩ := Option.map_eq_some_iff.1 hu
    exact (hA.cell (World.block_lt_of_cell? _ _ (hn j k hk))).trans (hn j k hk)
  have h1 : ∀ u ∈ news, u.oneCell' = true := fun u hu => by
    rw [hnews] at hu
    obtain ⟨k, _, rfl⟩ := List.mem_map.1 hu
    rfl
  have hbs : (Instr.buildSlice 25 0 #[]).run Try.prog w = .ok (.slice (some ⟨w.heap.size, 0, none⟩) 0 0) (w.alloc (.cells #[] 3)) := by
    simp [Instr.buildSlice, run_underlying Try.underlying25, sizeOf, typeInfo, hit, Instr.fill, newRow]
    rw [show Array.map (fun (_ : Nat) => (default : Value)) (Array.range 0) = #[] from Array.eq_empty_of_size_eq_zero (by simp)]
  have hq : (binOp .eql 25 (.slice (some ad) m cp) (.slice none 0 0)).run Try.prog w = .ok (.bool false) w := by
    have h : ∀ d : Nat, (Op.equalIn (d + 1) 25 (.slice (some ad) m cp) (.slice none 0 0)).run Try.prog w = .ok false w := fun d => by
      simp [Op.equalIn, run_underlying Try.underlying25]
    simp only [binOp]
    simp [Op.equal, Op.maxDepth, h 9999]
  have HA := hide hA
  have HO := hide ho
  have HN := hide hn'
  have HM := hide hm
  have HNW := hide hnews
  clear hA ho hn hn' hm hnews
  go_enter Try.func25, Try.ntmps25
  go_wp2_with (at_builtin; refine wpList_append_own_at _ rfl _ _ 25 rfl 0 3 it (.int .i64 0) 1 8 Try.underlying25 hit hz h65 h72 (by rfl) (by decide) (.slice (some ⟨w.heap.size, 0, none⟩) 0 0) 0 [] rfl HO.out ad m cp news rfl hl HN.out h1 (by unfold maxLen; omega) (by omega) (Nat.zero_le _) ?_; intro v1 x1 ho2 hg2 hnl hat; go_frame)
  go_ret
  rw [Nat.zero_add, List.nil_append] at ho2
  rcases ho2.2 with ⟨rfl, h0⟩ | ⟨gn, cn, cur, rfl, q1, q2, q3, q4, q5, q6⟩
  · exact absurd (hnl.1 rfl).1 (by simp)
  · have hgn : w.heap.size ≤ gn := by rcases hat with e | e <;> cases e <;> simp
    refine ⟨gn, cn, rfl, hgn, ⟨cur, q2⟩, fun j k hj => ?_, ?_⟩
    · rw [cell8 q2]
      have h9 : (cur.toList.take (m * 1))[j]? = some (.int .i64 (k : Int)) := by rw [q6, HNW.out, List.getElem?_map, hj]; rfl
      have hjm : j < m := by have h8 := (List.getElem?_eq_some_iff.1 hj).1; have h7 := HM.out; omega
      rw [List.getElem?_take, if_pos (by omega)] at h9
      simpa using h9
    · exact ⟨hg2.os.trans HA.out.os, hg2.tape.trans HA.out.tape, hg2.output.trans HA.out.output, Nat.le_trans HA.out.size hg2.size, fun k hk => (hg2.block k (Nat.lt_of_lt_of_le hk HA.out.size) (fun e => by simp [Value.ownBlock] at e; omega)).trans (HA.out.block k hk)⟩
section
variable {w : World} {b : Nat} {L : Lay} {σ : St}
set_option maxRecDepth 100000 in
set_option maxHeartbeats 400000 in
/-- Arm of one loss. -/
theorem parm_gen {af ga m nk ck : Nat} {ad : Addr} {kp : List Nat} {zs : List Int} (h : DevL w b L σ) (hok : σ.Ok) (ho : σ.off = false) (harm : σ.arms = []) (haf : 1 ≤ af) (hga : w.heap[ga]? = some (.cells #[.int .i64 (af : Int), .slice (some ad) nk ck] 35 (0, 0)))
    (hkl0 : zs.length = nk) (hnk9 : nk ≤ 17592186043904) (hkt : kp = (zs.map Int.toNat).take m) (hmn : m = min nk σ.n) (hmc : nk ≤ ck) (hk0 : IntsP w (some ad) zs) (hnn : nonneg zs = true) (hav : ¬ L.av.ownBlock = some ga) :
    Calls Try.prog 8 #[.pointer (some ⟨b, 0, none⟩), .slice (some ⟨ga, 0, none⟩) 1 1] w fun e w' => e = .returned (.int .i64 0) ∧ ∃ L', DevL w' b L' { σ with arms := [(af, kp)] } ∧ (∀ k, Foot b L' { σ with arms := [(af, kp)] } k → Foot b L σ k ∨ w.heap.size ≤ k) ∧ Gr (Foot b L σ) w w' ∧ L'.N ≤ L.N := by
  have hmk : m ≤ nk := by omega
  have hkl : kp.length = m := by rw [hkt, List.length_take, List.length_map]; omega
  have hmx := hok.max
  have ks := pstate_any h
  rw [ho] at ks
  simp only [Bool.false_eq_true, if_false] at ks
  obtain ⟨ia, hia, hiz, his, hib⟩ := infoArm2
  have hav0 : w.ownsRow 0 35 2 L.av 0 [] := by
    obtain ⟨ks', hl', ho', _⟩ := h.arms
    rw [harm] at hl' ho'
    have : ks' = [] := List.eq_nil_of_length_eq_zero (by simpa using hl')
    subst this
    exact ho'
  obtain ⟨avp, avc, hava⟩ := own_slice hav0
  have hkc : ∀ j k : Nat, kp[j]? = some k → w.cell? (ad.add j) = some (.int .i64 (k : Int)) := fun j k hj => by
    rw [hkt, List.getElem?_take] at hj
    split at hj
    · rw [List.getElem?_map] at hj
      obtain ⟨z, hz, rfl⟩ := Option.map_eq_some_iff.1 hj
      obtain ⟨g, o, e, h1, _, _⟩ := hk0.at hz
      cases e
      have h2 : 0 ≤ z := by
        unfold nonneg at hnn
        have := List.all_eq_true.1 hnn z (List.mem_of_getElem? hz)
        simpa using this
      rw [Addr.add_mid, h1]
      congr 2
      omega
    · cases hj
  have km : ∀ W : World, Below w.heap.size w W → Calls Try.prog 24 #[.slice (some ad) nk ck] W fun e w' => e = .returned (.bool true) ∧ w' = W := fun W hB => by
    have h5 := pmayI (w := W) ck nk (hk0.below hB) hkl0 hnk9
    rwa [hnn] at h5
  have kc : ∀ W : World, Below w.heap.size w W → Calls Try.prog 25 #[.slice (some ad) m ck] W fun e w' => ∃ gn cn, e = .returned (.slice (some ⟨gn, 0, none⟩) m cn) ∧ W.heap.size ≤ gn ∧ (∃ c, w'.heap[gn]? = some (.cells c 3 (0, 0))) ∧ (∀ j k : Nat, kp[j]? = some k → w'.cell? ⟨gn, j, none⟩ = some (.int .i64 (k : Int))) ∧ Below W.heap.size W w' := fun W hB =>
    pcloneG ad m ck kp W hkl (fun j k hj => (hB.cell (World.block_lt_of_cell? _ _ (hkc j k hj))).trans (hkc j k hj)) (by omega)
  have fx : ∀ W : World, Below w.heap.size w W → W.cell? ⟨ga, 0, none⟩ = some (.int .i64 (af : Int)) ∧ W.cell? ⟨ga, 1, none⟩ = some (.slice (some ad) nk ck) ∧ W.cell? ⟨b, 5, none⟩ = some L.av ∧ W.cell? ⟨b, 1, none⟩ = some (.slice (some ⟨L.sb, 0, none⟩) σ.n L.cp) := fun W hB => by
    have e1 := (hB.block ga (lt_of_heap hga)).trans hga
    have e2 := (hB.block b h.lt).trans h.dev
    exact ⟨cell8 e1 0, cell8 e1 1, cell8 e2 5, cell8 e2 1⟩
  have ix := fun Y => index_arm ga 1 1 (by omega) Y
  have HD := hide h
  have HAV0 := hide hav0
  have HAVA := hide hava
  have KS := hide ks
  have KM := hide km
  have KC := hide kc
  have FX := hide fx
  have HKL := hide hkl
  have afI : ¬ (af : Int) < 1 := by omega
  have HMI := hide (show (m : Int) = min (nk : Int) (σ.n : Int) by omega)
  clear hmn hk0 hkt hnn hkl0
  clear h ks km kc fx hkl hok ho harm hkc hga hav0 hava hav
  go_enter Try.func8, Try.ntmps8
  go_wp2_with (go_at_call 23; refine (KS.out).mono ?_; rintro e w' ⟨rfl, hw⟩; obtain rfl := hw.symm)
  go_loopw [18] (fun iv wr => (iv = .int .i64 0 ∨ iv = .int .i64 1) ∧ Below w.heap.size w wr) (fun iv _ => (1 - (intOf iv).toNat))
  case atStart => exact ⟨.inl rfl, Below.refl _ _⟩
  case round =>
    obtain ⟨rfl | rfl, hB⟩ := hrel
    · obtain ⟨f0, f1, f5, f6⟩ := FX.out wr hB
      have hB1 : Below w.heap.size w (wr.alloc (.cells #[.int .i64 (af : Int), .slice (some ad) nk ck] 35)) := hB.alloc hB.size _
      have HB1 := hide hB1
      clear hB hB1
      go_wp2_with (go_at_call 24; refine (KM.out _ ?hx).mono ?_; (case hx => exact HB1.out); rintro e w' ⟨rfl, hw⟩; obtain rfl := hw.symm)
      go_roundw
      case rel => exact ⟨.inr rfl, HB1.out⟩
      case measure => simp [intOf]
    · obtain ⟨f0, f1, f5, f6⟩ := FX.out wr hB
      rw [HAVA.out] at f5
      have HB := hide hB
      clear hB
      go_wp2_with (fail)
      go_loopw [43] (fun iv wx => (iv = .int .i64 0 ∧ Below w.heap.size w wx) ∨ (iv = .int .i64 1 ∧ ∃ L', DevL wx b L' { σ with arms := [(af, kp)] } ∧ (∀ k, Foot b L' { σ with arms := [(af, kp)] } k → Foot b L σ k ∨ w.heap.size ≤ k) ∧ Gr (Foot b L σ) w wx ∧ L'.N ≤ L.N)) (fun iv _ => (1 - (intOf iv).toNat))
      case atStart => exact .inl ⟨rfl, HB.out⟩
      case round =>
        rcases hrel with ⟨rfl, hB⟩ | ⟨rfl, hF⟩
        · obtain ⟨f0, f1, f5x, f6x⟩ := FX.out wr hB
          have hB1 : Below w.heap.size w (wr.alloc (.cells #[.int .i64 (af : Int), .slice (some ad) nk ck] 35)) := hB.alloc hB.size _
          obtain ⟨_, _, g5, g6⟩ := FX.out _ hB1
          have ha1 := heapNew wr (.cells #[.int .i64 (af : Int), .slice (some ad) nk ck] 35)
          have s15 : (wr.alloc (.cells #[.int .i64 (af : Int), .slice (some ad) nk ck] 35)).drew.cell? ⟨wr.heap.size, 1, none⟩ = some (.slice (some ad) nk ck) ∧ (wr.alloc (.cells #[.int .i64 (af : Int), .slice (some ad) nk ck] 35)).drew.cell? ⟨b, 1, none⟩ = some (.slice (some ⟨L.sb, 0, none⟩) σ.n L.cp) := ⟨cell8 (w := (wr.alloc (.cells #[.int .i64 (af : Int), .slice (some ad) nk ck] 35)).drew) ha1 1, g6⟩
          have S15 := hide s15
          have HB1 := hide hB1
          have HA1 := hide ha1
          have HBW := hide hB
          clear hB hB1 ha1 s15 g5 g6 f5x f6x
          go_wp2_with (fail)
          refine wp_region_held_drew (S := fun Y => Y.cell? ⟨wr.heap.size, 1, none⟩ = some (.slice (some ad) nk ck) ∧ Y.cell? ⟨b, 1, none⟩ = some (.slice (some ⟨L.sb, 0, none⟩) σ.n L.cp)) (by kernel_rfl) S15.out (fun hS => ?_)
          refine wpAnyH_take (i := 0) (v := (.pointer (some ⟨wr.heap.size, 1, none⟩))) rfl (by kernel_rfl) (by kernel_rfl) (by kernel_rfl) (fun _ _ _ h => h) (Or.inl ⟨by kernel_rfl, fun w' hw => by (go_simp)⟩) hS ?_
          refine wpAnyH_take (i := 1) (v := (.slice (some ad) nk ck)) rfl (by kernel_rfl) (by kernel_rfl) (by kernel_rfl) (fun _ _ _ h => h) (Or.inl ⟨by kernel_rfl, fun w' hw => by (obtain ⟨z0, z1⟩ := hw; go_simp)⟩) hS ?_
          refine wpAnyH_take (i := 2) (v := (.pointer (some ⟨wr.heap.size, 1, none⟩))) rfl (by kernel_rfl) (by kernel_rfl) (by kernel_rfl) (fun _ _ _ h => h) (Or.inl ⟨by kernel_rfl, fun w' hw => by (go_simp)⟩) hS ?_
          refine wpAnyH_take (i := 3) (v := (.slice (some ad) nk ck)) rfl (by kernel_rfl) (by kernel_rfl) (by kernel_rfl) (fun _ _ _ h => h) (Or.inl ⟨by kernel_rfl, fun w' hw => by (obtain ⟨z0, z1⟩ := hw; go_simp)⟩) hS ?_
          refine wpAnyH_take (i := 4) (v := (.int .i64 (nk : Int))) rfl (by kernel_rfl) (by kernel_rfl) (by kernel_rfl) (fun _ _ _ h => h) (Or.inl ⟨by kernel_rfl, fun w' hw => by (go_simp)⟩) hS ?_
          refine wpAnyH_take (i := 5) (v := (.pointer (some ⟨b, 0, none⟩))) rfl (by kernel_rfl) (by kernel_rfl) (by kernel_rfl) (fun _ _ _ h => h) (Or.inl ⟨by kernel_rfl, fun w' hw => by (go_simp)⟩) hS ?_
          refine wpAnyH_take (i := 6) (v := (.pointer (some ⟨b, 0, none⟩))) rfl (by kernel_rfl) (by kernel_rfl) (by kernel_rfl) (fun _ _ _ h => h) (Or.inl ⟨by kernel_rfl, fun w' hw => by (go_simp)⟩) hS ?_
          refine wpAnyH_take (i := 7) (v := (.pointer (some ⟨b, 1, none⟩))) rfl (by kernel_rfl) (by kernel_rfl) (by kernel_rfl) (fun _ _ _ h => h) (Or.inl ⟨by kernel_rfl, fun w' hw => by (go_simp)⟩) hS ?_
          refine wpAnyH_take (i := 8) (v := (.slice (some ⟨L.sb, 0, none⟩) σ.n L.cp)) rfl (by kernel_rfl) (by kernel_rfl) (by kernel_rfl) (fun _ _ _ h => h) (Or.inl ⟨by kernel_rfl, fun w' hw => by (obtain ⟨z0, z1⟩ := hw; go_simp)⟩) hS ?_
          refine wpAnyH_take (i := 9) (v := (.int .i64 (σ.n : Int))) rfl (by kernel_rfl) (by kernel_rfl) (by kernel_rfl) (fun _ _ _ h => h) (Or.inl ⟨by kernel_rfl, fun w' hw => by (go_simp)⟩) hS ?_
          refine wpAnyH_take (i := 10) (v := (.int .i64 (m : Int))) rfl (by kernel_rfl) (by kernel_rfl) (by kernel_rfl) (fun _ _ _ h => h) (Or.inl ⟨by kernel_rfl, fun w' hw => by (have mI := HMI.out; go_simp; omega)⟩) hS ?_
          refine wpAnyH_take (i := 11) (v := (.slice (some ad) m ck)) rfl (by kernel_rfl) (by kernel_rfl) (by kernel_rfl) (fun _ _ _ h => h) (Or.inl ⟨by kernel_rfl, fun w' hw => by (have e := cut_intsG ad m nk ck hmk hmc w'; go_simp)⟩) hS ?_
          refine wpAnyH_take (i := 12) (v := (.slice (some ad) m ck)) rfl (by kernel_rfl) (by kernel_rfl) (by kernel_rfl) (fun _ _ _ h => h) (Or.inl ⟨by kernel_rfl, fun w' hw => by (go_simp)⟩) hS ?_
          refine wpAnyH_done (by kernel_rfl) ?_ _
          simp only [Act.put, List.getElem_toArray, List.getElem_cons_zero, List.getElem_cons_succ, List.setIfInBounds_toArray, List.set_cons_zero, List.set_cons_succ]
          go_wp2_with (fail)
          have hw0 : Below w.heap.size w (wr.alloc (.cells #[.int .i64 (af : Int), .slice (some ad) nk ck] 35)).drew := HB1.out.drew
          have ha0 : (wr.alloc (.cells #[.int .i64 (af : Int), .slice (some ad) nk ck] 35)).drew.heap[wr.heap.size]? = some (.cells #[.int .i64 (af : Int), .slice (some ad) nk ck] 35 (0, 0)) := HA1.out
          have hsz0 : wr.heap.size < (wr.alloc (.cells #[.int .i64 (af : Int), .slice (some ad) nk ck] 35)).drew.heap.size := lt_of_heap ha0
          generalize (wr.alloc (.cells #[.int .i64 (af : Int), .slice (some ad) nk ck] 35)).drew = W0 at *
          have hb0 := (hw0.block b HD.out.lt).trans HD.out.dev
          have s16 : W0.drew.cell? ⟨b, 5, none⟩ = some L.av ∧ W0.drew.cell? ⟨wr.heap.size, 0, none⟩ = some (.int .i64 (af : Int)) := ⟨cell8 (w := W0.drew) hb0 5, cell8 (w := W0.drew) ha0 0⟩
          have S16 := hide s16
          have HW0 := hide (hw0.drew : Below w.heap.size w W0.drew)
          have HB0 := hide hb0
          have HA0 := hide ha0
          have arm5 : ∀ (W4 : World) (gn cn : Nat), Below W0.drew.heap.size W0.drew W4 → ((W4.alloc (.cells #[.int .i64 (af : Int), .slice (some ⟨gn, 0, none⟩) m cn] 35)).cell? ⟨b, 5, none⟩ = some L.av ∧ (W4.alloc (.cells #[.int .i64 (af : Int), .slice (some ⟨gn, 0, none⟩) m cn] 35)).cell? ⟨wr.heap.size, 0, none⟩ = some (.int .i64 (af : Int))) ∧ (W4.alloc (.cells #[.int .i64 (af : Int), .slice (some ⟨gn, 0, none⟩) m cn] 35)).ownsRow 0 35 2 L.av 0 [] ∧ (∀ (j : Nat) (u : Value), ([.int .i64 (af : Int), .slice (some ⟨gn, 0, none⟩) m cn] : List Value)[j]? = some u → (W4.alloc (.cells #[.int .i64 (af : Int), .slice (some ⟨gn, 0, none⟩) m cn] 35)).cell? ((⟨W4.heap.size, 0, none⟩ : Addr).add j) = some u) ∧ (∀ W8 : World, (W4.alloc (.cells #[.int .i64 (af : Int), .slice (some ⟨gn, 0, none⟩) m cn] 35)).grownBy W8 L.av.ownBlock → W8.cell? ⟨b, 5, none⟩ = some L.av ∧ W8.frozen? ⟨b, 5, none⟩ = false ∧ W8.cell? ⟨wr.heap.size, 0, none⟩ = some (.int .i64 (af : Int))) := fun W4 gn cn hB4 => by
            have e4 : W0.drew.heap.size ≤ W4.heap.size := hB4.size
            have hB5 : Below W0.drew.heap.size W0.drew (W4.alloc (.cells #[.int .i64 (af : Int), .slice (some ⟨gn, 0, none⟩) m cn] 35)) := hB4.alloc e4 _
            have x1 : (W4.alloc (.cells #[.int .i64 (af : Int), .slice (some ⟨gn, 0, none⟩) m cn] 35)).heap[b]? = _ := (hB5.block b (lt_of_heap hb0)).trans hb0
            have x2 : (W4.alloc (.cells #[.int .i64 (af : Int), .slice (some ⟨gn, 0, none⟩) m cn] 35)).heap[wr.heap.size]? = _ := (hB5.block _ (lt_of_heap ha0)).trans ha0
            have hlt : ∀ g, L.av.ownBlock = some g → g < w.heap.size := fun g hg => by obtain ⟨c', hc'⟩ := own_type HAV0.out hg; exact lt_of_heap hc'
            refine ⟨⟨cell8 x1 5, cell8 x2 0⟩, ownsRow_of_block HAV0.out (fun g hg => (hB5.block g (Nat.lt_of_lt_of_le (hlt g hg) hw0.size)).trans (hw0.block g (hlt g hg))), fun j u hu => ?_, fun W8 hg8 => ?_⟩
            · have h := range_all (heapNew W4 (.cells ([.int .i64 (af : Int), .slice (some ⟨gn, 0, none⟩) m cn] : List Value).toArray 35)) j u hu
              rw [Addr.add_mid]; exact h
            · have y1 := (hg8.block b (lt_of_heap x1) (fun e => by obtain ⟨c', hc'⟩ := own_type HAV0.out e.symm; exact ne_ty hc' HD.out.dev (by decide) rfl)).trans x1
              have y2 := (hg8.block _ (lt_of_heap x2) (fun e => by have := hlt _ e.symm; have := HBW.out.size; omega)).trans x2
              exact ⟨cell8 y1 5, froz8 y1 5, cell8 y2 0⟩
          have ARM5 := hide arm5
          clear hw0 hb0 ha0 s16 arm5 HA1 HB1 S15
          refine wp_region_early 14 (fun Y => Y.cell? ⟨b, 5, none⟩ = some L.av ∧ Y.cell? ⟨wr.heap.size, 0, none⟩ = some (.int .i64 (af : Int))) (by kernel_rfl) S16.out (fun hS => ?_)
          refine wpAnyE_take (i := 0) (v := (.pointer (some ⟨b, 0, none⟩))) rfl (by kernel_rfl) (by kernel_rfl) (by kernel_rfl) (by kernel_rfl) (fun _ _ _ h => h) (Or.inl ⟨by kernel_rfl, fun w' hw => by (go_simp)⟩) hS ?_
          refine wpAnyE_take (i := 1) (v := (.pointer (some ⟨b, 0, none⟩))) rfl (by kernel_rfl) (by kernel_rfl) (by kernel_rfl) (by kernel_rfl) (fun _ _ _ h => h) (Or.inl ⟨by kernel_rfl, fun w' hw => by (go_simp)⟩) hS ?_
          refine wpAnyE_take (i := 2) (v := (.pointer (some ⟨b, 0, none⟩))) rfl (by kernel_rfl) (by kernel_rfl) (by kernel_rfl) (by kernel_rfl) (fun _ _ _ h => h) (Or.inl ⟨by kernel_rfl, fun w' hw => by (go_simp)⟩) hS ?_
          refine wpAnyE_take (i := 3) (v := (.pointer (some ⟨b, 5, none⟩))) rfl (by kernel_rfl) (by kernel_rfl) (by kernel_rfl) (by kernel_rfl) (fun _ _ _ h => h) (Or.inl ⟨by kernel_rfl, fun w' hw => by (go_simp)⟩) hS ?_
          refine wpAnyE_take (i := 4) (v := L.av) rfl (by kernel_rfl) (by kernel_rfl) (by kernel_rfl) (by kernel_rfl) (fun _ _ _ h => h) (Or.inl ⟨by kernel_rfl, fun w' hw => by (obtain ⟨z0, z1⟩ := hw; go_simp)⟩) hS ?_
          refine wpAnyE_take (i := 5) (v := (.pointer (some ⟨wr.heap.size, 0, none⟩))) rfl (by kernel_rfl) (by kernel_rfl) (by kernel_rfl) (by kernel_rfl) (fun _ _ _ h => h) (Or.inl ⟨by kernel_rfl, fun w' hw => by (go_simp)⟩) hS ?_
          refine wpAnyE_take (i := 6) (v := (.int .i64 (af : Int))) rfl (by kernel_rfl) (by kernel_rfl) (by kernel_rfl) (by kernel_rfl) (fun _ _ _ h => h) (Or.inl ⟨by kernel_rfl, fun w' hw => by (obtain ⟨z0, z1⟩ := hw; go_simp)⟩) hS ?_
          refine wpAnyE_take (i := 7) (v := (.slice (some ad) m ck)) rfl (by kernel_rfl) (by kernel_rfl) (by kernel_rfl) (by kernel_rfl) (fun _ _ _ h => h) (Or.inl ⟨by kernel_rfl, fun w' hw => by (go_simp)⟩) hS ?_
          refine wpAnyE_do (i := 8) (by kernel_rfl) rfl (by kernel_rfl) (fun K hK => ?_)
          go_wp2_with (go_at_call 25; refine (KC.out _ ?hx).mono ?_; (case hx => exact HW0.out); rintro e W4 ⟨gn, cn, rfl, hgn, hgc, hcl, hB4⟩; have HGN := hide hgn; have HGC := hide hgc; have HCL := hide hcl; have HB4 := hide hB4; clear hgn hgc hcl hB4)
          have s4 : W4.cell? ⟨b, 5, none⟩ = some L.av ∧ W4.cell? ⟨wr.heap.size, 0, none⟩ = some (.int .i64 (af : Int)) := ⟨cell8 ((HB4.out.block b (lt_of_heap HB0.out)).trans HB0.out) 5, cell8 ((HB4.out.block _ (lt_of_heap HA0.out)).trans HA0.out) 0⟩
          refine hK.out _ _ (fun _ => s4) ?_
          clear hK K
          refine wpAnyE_take (i := 9) (v := (.agg #[.int .i64 (af : Int), .slice (some ⟨gn, 0, none⟩) m cn])) rfl (by kernel_rfl) (by kernel_rfl) (by kernel_rfl) (by kernel_rfl) (fun _ _ _ h => h) (Or.inl ⟨by kernel_rfl, fun w' hw => by (go_simp)⟩) s4 ?_
          refine wpAnyE_do (i := 10) (by kernel_rfl) rfl (by kernel_rfl) (fun K hK => ?_)
          refine wp_slice_arm (.tmp 68) (by kernel_rfl) [.int .i64 (af : Int), .slice (some ⟨gn, 0, none⟩) m cn] (by kernel_rfl) (by simp) ?_
          obtain ⟨s5, qo, qc, q8⟩ := ARM5.out W4 gn cn HB4.out
          have QO := hide qo
          have QC := hide qc
          have Q8 := hide q8
          clear qo qc q8
          refine hK.out _ _ (fun _ => s5) ?_
          clear hK K
          refine wpAnyE_do (i := 11) (by kernel_rfl) rfl (by kernel_rfl) (fun K hK => ?_)
          refine wp_append_at (.tmp 63) (.tmp 69) 55 (by kernel_rfl) 0 35 ia (.agg #[.int .i64 0, .slice none 0 0]) 2 32 armSlice hia hiz his hib (by rfl) (by decide) L.av 0 [] (by kernel_rfl) QO.out ⟨W4.heap.size, 0, none⟩ 1 1 [.int .i64 (af : Int), .slice (some ⟨gn, 0, none⟩) m cn] (by kernel_rfl) (by simp) QC.out (by simp [Value.oneCell']) (by unfold maxLen; omega) (by omega) (Nat.zero_le _) ?_
          intro v8 W8 ho8 hg8 _ hl8
          obtain ⟨r0, rf, r1⟩ := Q8.out W8 hg8
          obtain ⟨a8, c8, rfl⟩ := own_slice ho8
          have HO8 := hide ho8
          have HG8 := hide hg8
          have HL8 := hide hl8
          clear ho8 hg8 hl8
          refine hK.out _ _ (fun _ => ⟨r0, r1⟩) ?_
          clear hK K
          refine wpAnyE_do (i := 12) (by kernel_rfl) rfl (by kernel_rfl) (fun K hK => ?_)
          go_simp
          refine hK.out _ _ (fun _ => ⟨r0, r1⟩) ?_
          clear hK K
          refine wpAnyE_do (i := 13) (by kernel_rfl) rfl (by kernel_rfl) (fun K hK => ?_)
          go_simp
          refine hK.out _ _ (fun _ => ⟨r0, r1⟩) ?_
          clear hK K
          refine wpAnyE_do (i := 14) (by kernel_rfl) rfl (by kernel_rfl) (fun K hK => ?_)
          go_simp
          refine hK.out _ _ (fun h => absurd rfl h) ?_
          clear hK K
          refine wpAnyE_done (by kernel_rfl) ?_ _
          try simp only [Act.put, List.getElem_toArray, List.getElem_cons_zero, List.getElem_cons_succ, List.setIfInBounds_toArray, List.set_cons_zero, List.set_cons_succ]
          go_wp2_with (fail)
          go_roundw
          case measure => simp [intOf]
          case rel =>
            refine .inr ⟨rfl, ?_⟩
            have hw0 : Below w.heap.size w W0.drew := HW0.out
            have hB4 := HB4.out
            have e4 : W0.drew.heap.size ≤ W4.heap.size := hB4.size
            have hB5 : Below W0.drew.heap.size W0.drew (W4.alloc (.cells #[.int .i64 (af : Int), .slice (some ⟨gn, 0, none⟩) m cn] 35)) := hB4.alloc e4 _
            have hw5 : Below w.heap.size w (W4.alloc (.cells #[.int .i64 (af : Int), .slice (some ⟨gn, 0, none⟩) m cn] 35)) := hw0.trans (hB5.mono hw0.size)
            have hg8 := HG8.out
            have hlt : ∀ g, L.av.ownBlock = some g → g < w.heap.size := fun g hg => by obtain ⟨c', hc'⟩ := own_type HAV0.out hg; exact lt_of_heap hc'
            have hnb : L.av.ownBlock ≠ some b := fun e => by obtain ⟨c', hc'⟩ := own_type HAV0.out e; exact ne_ty hc' HD.out.dev (by decide) rfl
            have x1 : (W4.alloc (.cells #[.int .i64 (af : Int), .slice (some ⟨gn, 0, none⟩) m cn] 35)).heap[b]? = _ := (hw5.block b HD.out.lt).trans HD.out.dev
            have y1 : W8.heap[b]? = _ := (hg8.block b (lt_of_heap x1) (fun e => hnb e.symm)).trans x1
            have z1 := heap_set1 W8 b 5 _ _ (.slice a8 1 c8) y1
            have hgn5 : gn ≠ b ∧ L.av.ownBlock ≠ some gn ∧ gn < W4.heap.size := by
              obtain ⟨c, hc⟩ := HGC.out
              have h1 := HGN.out
              have h2 := HD.out.lt
              have h3 := hw0.size
              refine ⟨by omega, fun e => by have := hlt gn e; omega, lt_of_heap hc⟩
            have q5 : ∀ k, k < (W4.alloc (.cells #[.int .i64 (af : Int), .slice (some ⟨gn, 0, none⟩) m cn] 35)).heap.size → k ≠ b → L.av.ownBlock ≠ some k → (W8.setCell ⟨b, 5, none⟩ (.slice a8 1 c8)).heap[k]? = (W4.alloc (.cells #[.int .i64 (af : Int), .slice (some ⟨gn, 0, none⟩) m cn] 35)).heap[k]? := fun k h1 h2 h3 => (heap_set_ne _ b 5 k _ h2).trans (hg8.block k h1 (fun e => h3 e.symm))
            have hgn6 : (W8.setCell ⟨b, 5, none⟩ (.slice a8 1 c8)).heap[gn]? = W4.heap[gn]? := (q5 gn (by simp; omega) hgn5.1 hgn5.2.1).trans (Below.heap_alloc _ _ _ hgn5.2.2)
            have hown : (W8.setCell ⟨b, 5, none⟩ (.slice a8 1 c8)).ownsRow 0 35 2 (.slice a8 1 c8) 1 [.int .i64 (af : Int), .slice (some ⟨gn, 0, none⟩) m cn] := ownsRow_of_block HO8.out (fun g hg => heap_set_ne _ b 5 g _ (fun e => by
              obtain ⟨c', hc'⟩ := own_type HO8.out hg
              exact ne_ty hc' y1 (by decide) e))
            have hd := HD.out.armed (w' := W8.setCell ⟨b, 5, none⟩ (.slice a8 1 c8)) (v8 := .slice a8 1 c8) (gk := gn) (af := af) (kp := kp) (by rw [z1]; rfl) hown ⟨some ⟨gn, 0, none⟩, cn, by rw [HKL.out], .inr ⟨gn, rfl, rfl, fun j x hj => (World.cell?_of_block (a := ⟨gn, j, none⟩) hgn6).trans (HCL.out j x hj)⟩⟩ (by obtain ⟨c, hc⟩ := HGC.out; exact ⟨c, hgn6.trans hc⟩) (fun k h1 h2 h3 => (q5 k (Nat.lt_of_lt_of_le h1 hw5.size) h2 h3).trans (hw5.block k h1))
            refine ⟨_, hd, fun k hk => ?_, ?_, Nat.le_refl _⟩
            · rcases hk with r | r | r | r | r | r | r
              · exact .inl (.inl r)
              · exact .inl (.inr (.inl r))
              · exact .inl (.inr (.inr (.inl r)))
              · exact .inl (.inr (.inr (.inr (.inl r))))
              · exact .inl (.inr (.inr (.inr (.inr (.inl r)))))
              · rcases HL8.out with e | e
                · rw [e] at r; exact .inl (.inr (.inr (.inr (.inr (.inr (.inl r))))))
                · rw [e] at r; cases r; exact .inr hw5.size
              · have h1 := HGN.out
                have h3 := hw0.size
                have r : k = gn := r
                exact .inr (by omega)
            · exact ((Gr.of_below hw5 : Gr (Foot b L σ) w (W4.alloc (.cells #[.int .i64 (af : Int), .slice (some ⟨gn, 0, none⟩) m cn] 35))).trans (Gr.of_grown (X := Foot b L σ) hg8 (fun k hk => .inl (.inr (.inr (.inr (.inr (.inr (.inl hk)))))))) (fun i h => .inl h)).trans (Gr.set W8 b 5 _ (X := Foot b L σ) (.inl rfl)) (fun i h => .inl h)
        · have HF := hide hF
          clear hF
          go_wp2_with (fail)
          go_ret
          exact ⟨rfl, HF.out⟩
end
end Go.Proofs.Ytmljacjbpcgijaa
namespace Go.Proofs.Ytmljacjbpcgijaa
open Go.RowKit Go.Shelf
set_option linter.unusedVariables false

theorem cut_nil (w : World) : (Instr.sliceAt 25 (.slice none 0 0) none (some (.int .i64 0)) none).run Try.prog w = .ok (.slice none 0 0) w := by
  obtain ⟨i, h1, _⟩ := infoInt2
  simp [Instr.sliceAt, Instr.slice, Sem.run_bind, run_underlying Try.underlying25, Instr.sliceBounds, Instr.sliceBound, asIntOf, sizeOf, typeInfo, h1]
theorem pclone_nil (w : World) : Calls Try.prog 25 #[.slice none 0 0] w fun e w' => e = .returned (.slice none 0 0) ∧ Below w.heap.size w w' := by
  have hq : (binOp .eql 25 (.slice none 0 0) (.slice none 0 0)).run Try.prog w = .ok (.bool true) w := by
    have h : ∀ d : Nat, (Op.equalIn (d + 1) 25 (.slice none 0 0) (.slice none 0 0)).run Try.prog w = .ok true w := fun d => by
      simp [Op.equalIn, run_underlying Try.underlying25]
    simp only [binOp]
    simp [Op.equal, Op.maxDepth, h 9999]
  go_enter Try.func25, Try.ntmps25
  go_wp2
  go_ret
  exact ⟨rfl, Below.refl _ _⟩
section
variable {w : World} {b : Nat} {L : Lay} {σ : St}
/-- A loss waits. -/
theorem DevL.armed_nil {w' : World} {v8 kv : Value} {af : Nat} {kp : List Nat} (h : DevL w b L σ) (hb : w'.heap[b]? = some (.cells (devC b { L with av := v8 } { σ with arms := [(af, kp)] }) 57 (0, 0))) (hrow : w'.ownsRow 0 35 2 v8 1 [.int .i64 (af : Int), kv])
    (hkeep : KeepAt w' (fun _ => False) kv kp) (hk : ∀ k, k < w.heap.size → k ≠ b → L.av.ownBlock ≠ some k → w'.heap[k]? = w.heap[k]?) :
    DevL w' b { L with av := v8, KB := fun _ => False } { σ with arms := [(af, kp)] } := by
  have hs : ∀ (k : Nat) (c : Array Value) t fr, w.heap[k]? = some (Obj.cells c t fr) → t ≠ 57 → t ≠ 35 → w'.heap[k]? = w.heap[k]? := fun k c t fr h1 h2 h3 => hk k (lt_of_heap h1) (ne_ty h1 h.dev h2) (fun e => by obtain ⟨c', hc'⟩ := h.av_row e; exact ne_ty h1 hc' h3 rfl)
  have hm : ∀ (k : Nat) es q, w.heap[k]? = some (Obj.map es q) → w'.heap[k]? = w.heap[k]? := fun k es q h1 => hk k (lt_of_heap h1) (ne_map h.dev h1).symm (fun e => by obtain ⟨c', hc'⟩ := h.av_row e; exact ne_map hc' h1 rfl)
  obtain ⟨e1, k1, hob⟩ := h.old.block
  obtain ⟨e2, k2, hfb⟩ := h.flm.block
  refine ⟨hb, (hs _ _ _ _ h.seen (by decide) (by decide)).trans h.seen, h.old.of_block (hm _ _ _ hob), h.flm.of_block (hm _ _ _ hfb),
    fun i hi => (h.pasts i hi).keep (hs _ _ _ _ (h.pasts i hi).1 (by decide) (by decide)) (fun g' hg' => ?_), h.pne, h.rne, h.mne, ⟨[kv], rfl, hrow, fun i k a h1 h2 => ?_⟩, fun k hkb => ?_⟩
  · obtain ⟨c, hc⟩ := (h.pasts i hi).row hg'
    exact hs _ _ _ _ hc (by decide) (by decide)
  · cases i with
    | zero => cases h1; cases h2; exact hkeep
    | succ i => simp at h1
  · exact hkb.elim
set_option maxRecDepth 100000 in
set_option maxHeartbeats 400000 in
/-- Arm of one loss. -/
theorem parm_nil {af ga : Nat} (h : DevL w b L σ) (hok : σ.Ok) (ho : σ.off = false) (harm : σ.arms = []) (haf : 1 ≤ af) (hga : w.heap[ga]? = some (.cells #[.int .i64 (af : Int), .slice none 0 0] 35 (0, 0)))
    (hav : ¬ L.av.ownBlock = some ga) :
    Calls Try.prog 8 #[.pointer (some ⟨b, 0, none⟩), .slice (some ⟨ga, 0, none⟩) 1 1] w fun e w' => e = .returned (.int .i64 0) ∧ ∃ L', DevL w' b L' { σ with arms := [(af, [])] } ∧ (∀ k, Foot b L' { σ with arms := [(af, [])] } k → Foot b L σ k ∨ w.heap.size ≤ k) ∧ Gr (Foot b L σ) w w' ∧ L'.N ≤ L.N := by
  have hmx := hok.max
  have ks := pstate_any h
  rw [ho] at ks
  simp only [Bool.false_eq_true, if_false] at ks
  obtain ⟨ia, hia, hiz, his, hib⟩ := infoArm2
  have hav0 : w.ownsRow 0 35 2 L.av 0 [] := by
    obtain ⟨ks', hl', ho', _⟩ := h.arms
    rw [harm] at hl' ho'
    have : ks' = [] := List.eq_nil_of_length_eq_zero (by simpa using hl')
    subst this
    exact ho'
  obtain ⟨avp, avc, hava⟩ := own_slice hav0
  have km : ∀ W : World, Below w.heap.size w W → Calls Try.prog 24 #[.slice none 0 0] W fun e w' => e = .returned (.bool true) ∧ w' = W := fun W hB => pmay_any (w := W) (ks := []) 0 ⟨by simp, .inl ⟨rfl, rfl⟩⟩ (by simp)
  have kc : ∀ W : World, Below w.heap.size w W → Calls Try.prog 25 #[.slice none 0 0] W fun e w' => e = .returned (.slice none 0 0) ∧ Below W.heap.size W w' := fun W hB => pclone_nil W
  have fx : ∀ W : World, Below w.heap.size w W → W.cell? ⟨ga, 0, none⟩ = some (.int .i64 (af : Int)) ∧ W.cell? ⟨ga, 1, none⟩ = some (.slice none 0 0) ∧ W.cell? ⟨b, 5, none⟩ = some L.av ∧ W.cell? ⟨b, 1, none⟩ = some (.slice (some ⟨L.sb, 0, none⟩) σ.n L.cp) := fun W hB => by
    have e1 := (hB.block ga (lt_of_heap hga)).trans hga
    have e2 := (hB.block b h.lt).trans h.dev
    exact ⟨cell8 e1 0, cell8 e1 1, cell8 e2 5, cell8 e2 1⟩
  have ix := fun Y => index_arm ga 1 1 (by omega) Y
  have HD := hide h
  have HAV0 := hide hav0
  have HAVA := hide hava
  have KS := hide ks
  have KM := hide km
  have KC := hide kc
  have FX := hide fx
  have afI : ¬ (af : Int) < 1 := by omega
  clear h ks km kc fx hok ho harm hga hav0 hava hav
  go_enter Try.func8, Try.ntmps8
  go_wp2_with (go_at_call 23; refine (KS.out).mono ?_; rintro e w' ⟨rfl, hw⟩; obtain rfl := hw.symm)
  go_loopw [18] (fun iv wr => (iv = .int .i64 0 ∨ iv = .int .i64 1) ∧ Below w.heap.size w wr) (fun iv _ => (1 - (intOf iv).toNat))
  case atStart => exact ⟨.inl rfl, Below.refl _ _⟩
  case round =>
    obtain ⟨rfl | rfl, hB⟩ := hrel
    · obtain ⟨f0, f1, f5, f6⟩ := FX.out wr hB
      have hB1 : Below w.heap.size w (wr.alloc (.cells #[.int .i64 (af : Int), .slice none 0 0] 35)) := hB.alloc hB.size _
      have HB1 := hide hB1
      clear hB hB1
      go_wp2_with (go_at_call 24; refine (KM.out _ ?hx).mono ?_; (case hx => exact HB1.out); rintro e w' ⟨rfl, hw⟩; obtain rfl := hw.symm)
      go_roundw
      case rel => exact ⟨.inr rfl, HB1.out⟩
      case measure => simp [intOf]
    · obtain ⟨f0, f1, f5, f6⟩ := FX.out wr hB
      rw [HAVA.out] at f5
      have HB := hide hB
      clear hB
      go_wp2_with (fail)
      go_loopw [43] (fun iv wx => (iv = .int .i64 0 ∧ Below w.heap.size w wx) ∨ (iv = .int .i64 1 ∧ ∃ L', DevL wx b L' { σ with arms := [(af, [])] } ∧ (∀ k, Foot b L' { σ with arms := [(af, [])] } k → Foot b L σ k ∨ w.heap.size ≤ k) ∧ Gr (Foot b L σ) w wx ∧ L'.N ≤ L.N)) (fun iv _ => (1 - (intOf iv).toNat))
      case atStart => exact .inl ⟨rfl, HB.out⟩
      case round =>
        rcases hrel with ⟨rfl, hB⟩ | ⟨rfl, hF⟩
        · obtain ⟨f0, f1, f5x, f6x⟩ := FX.out wr hB
          have hB1 : Below w.heap.size w (wr.alloc (.cells #[.int .i64 (af : Int), .slice none 0 0] 35)) := hB.alloc hB.size _
          obtain ⟨_, _, g5, g6⟩ := FX.out _ hB1
          have ha1 := heapNew wr (.cells #[.int .i64 (af : Int), .slice none 0 0] 35)
          have s15 : (wr.alloc (.cells #[.int .i64 (af : Int), .slice none 0 0] 35)).drew.cell? ⟨wr.heap.size, 1, none⟩ = some (.slice none 0 0) ∧ (wr.alloc (.cells #[.int .i64 (af : Int), .slice none 0 0] 35)).drew.cell? ⟨b, 1, none⟩ = some (.slice (some ⟨L.sb, 0, none⟩) σ.n L.cp) := ⟨cell8 (w := (wr.alloc (.cells #[.int .i64 (af : Int), .slice none 0 0] 35)).drew) ha1 1, g6⟩
          have S15 := hide s15
          have HB1 := hide hB1
          have HA1 := hide ha1
          have HBW := hide hB
          clear hB hB1 ha1 s15 g5 g6 f5x f6x
          go_wp2_with (fail)
          refine wp_region_held_drew (S := fun Y => Y.cell? ⟨wr.heap.size, 1, none⟩ = some (.slice none 0 0) ∧ Y.cell? ⟨b, 1, none⟩ = some (.slice (some ⟨L.sb, 0, none⟩) σ.n L.cp)) (by kernel_rfl) S15.out (fun hS => ?_)
          refine wpAnyH_take (i := 0) (v := (.pointer (some ⟨wr.heap.size, 1, none⟩))) rfl (by kernel_rfl) (by kernel_rfl) (by kernel_rfl) (fun _ _ _ h => h) (Or.inl ⟨by kernel_rfl, fun w' hw => by (go_simp)⟩) hS ?_
          refine wpAnyH_take (i := 1) (v := (.slice none 0 0)) rfl (by kernel_rfl) (by kernel_rfl) (by kernel_rfl) (fun _ _ _ h => h) (Or.inl ⟨by kernel_rfl, fun w' hw => by (obtain ⟨z0, z1⟩ := hw; go_simp)⟩) hS ?_
          refine wpAnyH_take (i := 2) (v := (.pointer (some ⟨wr.heap.size, 1, none⟩))) rfl (by kernel_rfl) (by kernel_rfl) (by kernel_rfl) (fun _ _ _ h => h) (Or.inl ⟨by kernel_rfl, fun w' hw => by (go_simp)⟩) hS ?_
          refine wpAnyH_take (i := 3) (v := (.slice none 0 0)) rfl (by kernel_rfl) (by kernel_rfl) (by kernel_rfl) (fun _ _ _ h => h) (Or.inl ⟨by kernel_rfl, fun w' hw => by (obtain ⟨z0, z1⟩ := hw; go_simp)⟩) hS ?_
          refine wpAnyH_take (i := 4) (v := (.int .i64 0)) rfl (by kernel_rfl) (by kernel_rfl) (by kernel_rfl) (fun _ _ _ h => h) (Or.inl ⟨by kernel_rfl, fun w' hw => by (go_simp)⟩) hS ?_
          refine wpAnyH_take (i := 5) (v := (.pointer (some ⟨b, 0, none⟩))) rfl (by kernel_rfl) (by kernel_rfl) (by kernel_rfl) (fun _ _ _ h => h) (Or.inl ⟨by kernel_rfl, fun w' hw => by (go_simp)⟩) hS ?_
          refine wpAnyH_take (i := 6) (v := (.pointer (some ⟨b, 0, none⟩))) rfl (by kernel_rfl) (by kernel_rfl) (by kernel_rfl) (fun _ _ _ h => h) (Or.inl ⟨by kernel_rfl, fun w' hw => by (go_simp)⟩) hS ?_
          refine wpAnyH_take (i := 7) (v := (.pointer (some ⟨b, 1, none⟩))) rfl (by kernel_rfl) (by kernel_rfl) (by kernel_rfl) (fun _ _ _ h => h) (Or.inl ⟨by kernel_rfl, fun w' hw => by (go_simp)⟩) hS ?_
          refine wpAnyH_take (i := 8) (v := (.slice (some ⟨L.sb, 0, none⟩) σ.n L.cp)) rfl (by kernel_rfl) (by kernel_rfl) (by kernel_rfl) (fun _ _ _ h => h) (Or.inl ⟨by kernel_rfl, fun w' hw => by (obtain ⟨z0, z1⟩ := hw; go_simp)⟩) hS ?_
          refine wpAnyH_take (i := 9) (v := (.int .i64 (σ.n : Int))) rfl (by kernel_rfl) (by kernel_rfl) (by kernel_rfl) (fun _ _ _ h => h) (Or.inl ⟨by kernel_rfl, fun w' hw => by (go_simp)⟩) hS ?_
          refine wpAnyH_take (i := 10) (v := (.int .i64 0)) rfl (by kernel_rfl) (by kernel_rfl) (by kernel_rfl) (fun _ _ _ h => h) (Or.inl ⟨by kernel_rfl, fun w' hw => by (go_simp; intro hx; omega)⟩) hS ?_
          refine wpAnyH_take (i := 11) (v := (.slice none 0 0)) rfl (by kernel_rfl) (by kernel_rfl) (by kernel_rfl) (fun _ _ _ h => h) (Or.inl ⟨by kernel_rfl, fun w' hw => by (have e := cut_nil w'; go_simp)⟩) hS ?_
          refine wpAnyH_take (i := 12) (v := (.slice none 0 0)) rfl (by kernel_rfl) (by kernel_rfl) (by kernel_rfl) (fun _ _ _ h => h) (Or.inl ⟨by kernel_rfl, fun w' hw => by (go_simp)⟩) hS ?_
          refine wpAnyH_done (by kernel_rfl) ?_ _
          simp only [Act.put, List.getElem_toArray, List.getElem_cons_zero, List.getElem_cons_succ, List.setIfInBounds_toArray, List.set_cons_zero, List.set_cons_succ]
          go_wp2_with (fail)
          have hw0 : Below w.heap.size w (wr.alloc (.cells #[.int .i64 (af : Int), .slice none 0 0] 35)).drew := HB1.out.drew
          have ha0 : (wr.alloc (.cells #[.int .i64 (af : Int), .slice none 0 0] 35)).drew.heap[wr.heap.size]? = some (.cells #[.int .i64 (af : Int), .slice none 0 0] 35 (0, 0)) := HA1.out
          have hsz0 : wr.heap.size < (wr.alloc (.cells #[.int .i64 (af : Int), .slice none 0 0] 35)).drew.heap.size := lt_of_heap ha0
          generalize (wr.alloc (.cells #[.int .i64 (af : Int), .slice none 0 0] 35)).drew = W0 at *
          have hb0 := (hw0.block b HD.out.lt).trans HD.out.dev
          have s16 : W0.drew.cell? ⟨b, 5, none⟩ = some L.av ∧ W0.drew.cell? ⟨wr.heap.size, 0, none⟩ = some (.int .i64 (af : Int)) := ⟨cell8 (w := W0.drew) hb0 5, cell8 (w := W0.drew) ha0 0⟩
          have S16 := hide s16
          have HW0 := hide (hw0.drew : Below w.heap.size w W0.drew)
          have HB0 := hide hb0
          have HA0 := hide ha0
          have arm5 : ∀ (W4 : World), Below W0.drew.heap.size W0.drew W4 → ((W4.alloc (.cells #[.int .i64 (af : Int), .slice none 0 0] 35)).cell? ⟨b, 5, none⟩ = some L.av ∧ (W4.alloc (.cells #[.int .i64 (af : Int), .slice none 0 0] 35)).cell? ⟨wr.heap.size, 0, none⟩ = some (.int .i64 (af : Int))) ∧ (W4.alloc (.cells #[.int .i64 (af : Int), .slice none 0 0] 35)).ownsRow 0 35 2 L.av 0 [] ∧ (∀ (j : Nat) (u : Value), ([.int .i64 (af : Int), .slice none 0 0] : List Value)[j]? = some u → (W4.alloc (.cells #[.int .i64 (af : Int), .slice none 0 0] 35)).cell? ((⟨W4.heap.size, 0, none⟩ : Addr).add j) = some u) ∧ (∀ W8 : World, (W4.alloc (.cells #[.int .i64 (af : Int), .slice none 0 0] 35)).grownBy W8 L.av.ownBlock → W8.cell? ⟨b, 5, none⟩ = some L.av ∧ W8.frozen? ⟨b, 5, none⟩ = false ∧ W8.cell? ⟨wr.heap.size, 0, none⟩ = some (.int .i64 (af : Int))) := fun W4 hB4 => by
            have e4 : W0.drew.heap.size ≤ W4.heap.size := hB4.size
            have hB5 : Below W0.drew.heap.size W0.drew (W4.alloc (.cells #[.int .i64 (af : Int), .slice none 0 0] 35)) := hB4.alloc e4 _
            have x1 : (W4.alloc (.cells #[.int .i64 (af : Int), .slice none 0 0] 35)).heap[b]? = _ := (hB5.block b (lt_of_heap hb0)).trans hb0
            have x2 : (W4.alloc (.cells #[.int .i64 (af : Int), .slice none 0 0] 35)).heap[wr.heap.size]? = _ := (hB5.block _ (lt_of_heap ha0)).trans ha0
            have hlt : ∀ g, L.av.ownBlock = some g → g < w.heap.size := fun g hg => by obtain ⟨c', hc'⟩ := own_type HAV0.out hg; exact lt_of_heap hc'
            refine ⟨⟨cell8 x1 5, cell8 x2 0⟩, ownsRow_of_block HAV0.out (fun g hg => (hB5.block g (Nat.lt_of_lt_of_le (hlt g hg) hw0.size)).trans (hw0.block g (hlt g hg))), fun j u hu => ?_, fun W8 hg8 => ?_⟩
            · have h := range_all (heapNew W4 (.cells ([.int .i64 (af : Int), .slice none 0 0] : List Value).toArray 35)) j u hu
              rw [Addr.add_mid]; exact h
            · have y1 := (hg8.block b (lt_of_heap x1) (fun e => by obtain ⟨c', hc'⟩ := own_type HAV0.out e.symm; exact ne_ty hc' HD.out.dev (by decide) rfl)).trans x1
              have y2 := (hg8.block _ (lt_of_heap x2) (fun e => by have := hlt _ e.symm; have := HBW.out.size; omega)).trans x2
              exact ⟨cell8 y1 5, froz8 y1 5, cell8 y2 0⟩
          have ARM5 := hide arm5
          clear hw0 hb0 ha0 s16 arm5 HA1 HB1 S15
          refine wp_region_early 14 (fun Y => Y.cell? ⟨b, 5, none⟩ = some L.av ∧ Y.cell? ⟨wr.heap.size, 0, none⟩ = some (.int .i64 (af : Int))) (by kernel_rfl) S16.out (fun hS => ?_)
          refine wpAnyE_take (i := 0) (v := (.pointer (some ⟨b, 0, none⟩))) rfl (by kernel_rfl) (by kernel_rfl) (by kernel_rfl) (by kernel_rfl) (fun _ _ _ h => h) (Or.inl ⟨by kernel_rfl, fun w' hw => by (go_simp)⟩) hS ?_
          refine wpAnyE_take (i := 1) (v := (.pointer (some ⟨b, 0, none⟩))) rfl (by kernel_rfl) (by kernel_rfl) (by kernel_rfl) (by kernel_rfl) (fun _ _ _ h => h) (Or.inl ⟨by kernel_rfl, fun w' hw => by (go_simp)⟩) hS ?_
          refine wpAnyE_take (i := 2) (v := (.pointer (some ⟨b, 0, none⟩))) rfl (by kernel_rfl) (by kernel_rfl) (by kernel_rfl) (by kernel_rfl) (fun _ _ _ h => h) (Or.inl ⟨by kernel_rfl, fun w' hw => by (go_simp)⟩) hS ?_
          refine wpAnyE_take (i := 3) (v := (.pointer (some ⟨b, 5, none⟩))) rfl (by kernel_rfl) (by kernel_rfl) (by kernel_rfl) (by kernel_rfl) (fun _ _ _ h => h) (Or.inl ⟨by kernel_rfl, fun w' hw => by (go_simp)⟩) hS ?_
          refine wpAnyE_take (i := 4) (v := L.av) rfl (by kernel_rfl) (by kernel_rfl) (by kernel_rfl) (by kernel_rfl) (fun _ _ _ h => h) (Or.inl ⟨by kernel_rfl, fun w' hw => by (obtain ⟨z0, z1⟩ := hw; go_simp)⟩) hS ?_
          refine wpAnyE_take (i := 5) (v := (.pointer (some ⟨wr.heap.size, 0, none⟩))) rfl (by kernel_rfl) (by kernel_rfl) (by kernel_rfl) (by kernel_rfl) (fun _ _ _ h => h) (Or.inl ⟨by kernel_rfl, fun w' hw => by (go_simp)⟩) hS ?_
          refine wpAnyE_take (i := 6) (v := (.int .i64 (af : Int))) rfl (by kernel_rfl) (by kernel_rfl) (by kernel_rfl) (by kernel_rfl) (fun _ _ _ h => h) (Or.inl ⟨by kernel_rfl, fun w' hw => by (obtain ⟨z0, z1⟩ := hw; go_simp)⟩) hS ?_
          refine wpAnyE_take (i := 7) (v := (.slice none 0 0)) rfl (by kernel_rfl) (by kernel_rfl) (by kernel_rfl) (by kernel_rfl) (fun _ _ _ h => h) (Or.inl ⟨by kernel_rfl, fun w' hw => by (go_simp)⟩) hS ?_
          refine wpAnyE_do (i := 8) (by kernel_rfl) rfl (by kernel_rfl) (fun K hK => ?_)
          go_wp2_with (go_at_call 25; refine (KC.out _ ?hx).mono ?_; (case hx => exact HW0.out); rintro e W4 ⟨rfl, hB4⟩; have HB4 := hide hB4; clear hB4)
          have s4 : W4.cell? ⟨b, 5, none⟩ = some L.av ∧ W4.cell? ⟨wr.heap.size, 0, none⟩ = some (.int .i64 (af : Int)) := ⟨cell8 ((HB4.out.block b (lt_of_heap HB0.out)).trans HB0.out) 5, cell8 ((HB4.out.block _ (lt_of_heap HA0.out)).trans HA0.out) 0⟩
          refine hK.out _ _ (fun _ => s4) ?_
          clear hK K
          refine wpAnyE_take (i := 9) (v := (.agg #[.int .i64 (af : Int), .slice none 0 0])) rfl (by kernel_rfl) (by kernel_rfl) (by kernel_rfl) (by kernel_rfl) (fun _ _ _ h => h) (Or.inl ⟨by kernel_rfl, fun w' hw => by (go_simp)⟩) s4 ?_
          refine wpAnyE_do (i := 10) (by kernel_rfl) rfl (by kernel_rfl) (fun K hK => ?_)
          refine wp_slice_arm (.tmp 68) (by kernel_rfl) [.int .i64 (af : Int), .slice none 0 0] (by kernel_rfl) (by simp) ?_
          obtain ⟨s5, qo, qc, q8⟩ := ARM5.out W4 HB4.out
          have QO := hide qo
          have QC := hide qc
          have Q8 := hide q8
          clear qo qc q8
          refine hK.out _ _ (fun _ => s5) ?_
          clear hK K
          refine wpAnyE_do (i := 11) (by kernel_rfl) rfl (by kernel_rfl) (fun K hK => ?_)
          refine wp_append_at (.tmp 63) (.tmp 69) 55 (by kernel_rfl) 0 35 ia (.agg #[.int .i64 0, .slice none 0 0]) 2 32 armSlice hia hiz his hib (by rfl) (by decide) L.av 0 [] (by kernel_rfl) QO.out ⟨W4.heap.size, 0, none⟩ 1 1 [.int .i64 (af : Int), .slice none 0 0] (by kernel_rfl) (by simp) QC.out (by simp [Value.oneCell']) (by unfold maxLen; omega) (by omega) (Nat.zero_le _) ?_
          intro v8 W8 ho8 hg8 _ hl8
          obtain ⟨r0, rf, r1⟩ := Q8.out W8 hg8
          obtain ⟨a8, c8, rfl⟩ := own_slice ho8
          have HO8 := hide ho8
          have HG8 := hide hg8
          have HL8 := hide hl8
          clear ho8 hg8 hl8
          refine hK.out _ _ (fun _ => ⟨r0, r1⟩) ?_
          clear hK K
          refine wpAnyE_do (i := 12) (by kernel_rfl) rfl (by kernel_rfl) (fun K hK => ?_)
          go_simp
          refine hK.out _ _ (fun _ => ⟨r0, r1⟩) ?_
          clear hK K
          refine wpAnyE_do (i := 13) (by kernel_rfl) rfl (by kernel_rfl) (fun K hK => ?_)
          go_simp
          refine hK.out _ _ (fun _ => ⟨r0, r1⟩) ?_
          clear hK K
          refine wpAnyE_do (i := 14) (by kernel_rfl) rfl (by kernel_rfl) (fun K hK => ?_)
          go_simp
          refine hK.out _ _ (fun h => absurd rfl h) ?_
          clear hK K
          refine wpAnyE_done (by kernel_rfl) ?_ _
          try simp only [Act.put, List.getElem_toArray, List.getElem_cons_zero, List.getElem_cons_succ, List.setIfInBounds_toArray, List.set_cons_zero, List.set_cons_succ]
          go_wp2_with (fail)
          go_roundw
          case measure => simp [intOf]
          case rel =>
            refine .inr ⟨rfl, ?_⟩
            have hw0 : Below w.heap.size w W0.drew := HW0.out
            have hB4 := HB4.out
            have e4 : W0.drew.heap.size ≤ W4.heap.size := hB4.size
            have hB5 : Below W0.drew.heap.size W0.drew (W4.alloc (.cells #[.int .i64 (af : Int), .slice none 0 0] 35)) := hB4.alloc e4 _
            have hw5 : Below w.heap.size w (W4.alloc (.cells #[.int .i64 (af : Int), .slice none 0 0] 35)) := hw0.trans (hB5.mono hw0.size)
            have hg8 := HG8.out
            have hlt : ∀ g, L.av.ownBlock = some g → g < w.heap.size := fun g hg => by obtain ⟨c', hc'⟩ := own_type HAV0.out hg; exact lt_of_heap hc'
            have hnb : L.av.ownBlock ≠ some b := fun e => by obtain ⟨c', hc'⟩ := own_type HAV0.out e; exact ne_ty hc' HD.out.dev (by decide) rfl
            have x1 : (W4.alloc (.cells #[.int .i64 (af : Int), .slice none 0 0] 35)).heap[b]? = _ := (hw5.block b HD.out.lt).trans HD.out.dev
            have y1 : W8.heap[b]? = _ := (hg8.block b (lt_of_heap x1) (fun e => hnb e.symm)).trans x1
            have z1 := heap_set1 W8 b 5 _ _ (.slice a8 1 c8) y1
            have q5 : ∀ k, k < (W4.alloc (.cells #[.int .i64 (af : Int), .slice none 0 0] 35)).heap.size → k ≠ b → L.av.ownBlock ≠ some k → (W8.setCell ⟨b, 5, none⟩ (.slice a8 1 c8)).heap[k]? = (W4.alloc (.cells #[.int .i64 (af : Int), .slice none 0 0] 35)).heap[k]? := fun k h1 h2 h3 => (heap_set_ne _ b 5 k _ h2).trans (hg8.block k h1 (fun e => h3 e.symm))
            have hown : (W8.setCell ⟨b, 5, none⟩ (.slice a8 1 c8)).ownsRow 0 35 2 (.slice a8 1 c8) 1 [.int .i64 (af : Int), .slice none 0 0] := ownsRow_of_block HO8.out (fun g hg => heap_set_ne _ b 5 g _ (fun e => by
              obtain ⟨c', hc'⟩ := own_type HO8.out hg
              exact ne_ty hc' y1 (by decide) e))
            have hd := HD.out.armed_nil (w' := W8.setCell ⟨b, 5, none⟩ (.slice a8 1 c8)) (v8 := .slice a8 1 c8) (af := af) (kp := []) (by rw [z1]; rfl) hown ⟨none, 0, rfl, .inl ⟨rfl, rfl⟩⟩ (fun k h1 h2 h3 => (q5 k (Nat.lt_of_lt_of_le h1 hw5.size) h2 h3).trans (hw5.block k h1))
            refine ⟨_, hd, fun k hk => ?_, ?_, Nat.le_refl _⟩
            · rcases hk with r | r | r | r | r | r | r
              · exact .inl (.inl r)
              · exact .inl (.inr (.inl r))
              · exact .inl (.inr (.inr (.inl r)))
              · exact .inl (.inr (.inr (.inr (.inl r))))
              · exact .inl (.inr (.inr (.inr (.inr (.inl r)))))
              · rcases HL8.out with e | e
                · rw [e] at r; exact .inl (.inr (.inr (.inr (.inr (.inr (.inl r))))))
                · rw [e] at r; cases r; exact .inr hw5.size
              · exact r.elim
            · exact ((Gr.of_below hw5 : Gr (Foot b L σ) w (W4.alloc (.cells #[.int .i64 (af : Int), .slice none 0 0] 35))).trans (Gr.of_grown (X := Foot b L σ) hg8 (fun k hk => .inl (.inr (.inr (.inr (.inr (.inr (.inl hk)))))))) (fun i h => .inl h)).trans (Gr.set W8 b 5 _ (X := Foot b L σ) (.inl rfl)) (fun i h => .inl h)
        · have HF := hide hF
          clear hF
          go_wp2_with (fail)
          go_ret
          exact ⟨rfl, HF.out⟩
end
end Go.Proofs.Ytmljacjbpcgijaa
namespace Go.Proofs.Ytmljacjbpcgijaa
open Go.RowKit Go.Shelf
set_option linter.unusedVariables false

/-- A list of numbers, not in the block sb. -/
def SlM (w : World) (a : Option Addr) (ks : List Nat) (sb : Nat) : Prop :=
  (∀ k ∈ ks, k < 9223372036854775808) ∧ (ks = [] ∨ ∃ g o, a = some ⟨g, o, none⟩ ∧ g < w.heap.size ∧ g ≠ sb ∧ ∀ j k : Nat, ks[j]? = some k → w.cell? ⟨g, o + j, none⟩ = some (.int .i64 (k : Int)))
theorem SlM.at {w : World} {a : Option Addr} {ks : List Nat} {sb : Nat} (h : SlM w a ks sb) {j k : Nat} (hj : ks[j]? = some k) : ∃ g o, a = some ⟨g, o, none⟩ ∧ w.cell? ⟨g, o + j, none⟩ = some (.int .i64 (k : Int)) ∧ k < 9223372036854775808 := by
  rcases h.2 with h2 | ⟨g, o, h1, _, _, h3⟩
  · rw [h2] at hj; cases hj
  · exact ⟨g, o, h1, h3 j k hj, h.1 k (List.mem_of_getElem? hj)⟩
theorem SlM.keep {w w' : World} {a : Option Addr} {ks : List Nat} {sb : Nat} (h : SlM w a ks sb) (hk : ∀ k : Nat, k < w.heap.size → k ≠ sb → w'.heap[k]? = w.heap[k]?) : SlM w' a ks sb := by
  refine ⟨h.1, ?_⟩
  rcases h.2 with h1 | ⟨g, o, h1, h2, h3, h4⟩
  · exact .inl h1
  · have e := hk g h2 h3
    refine .inr ⟨g, o, h1, ?_, h3, fun j k hj => (World.cell?_of_block (a := ⟨g, o + j, none⟩) e).trans (h4 j k hj)⟩
    have e2 := e.trans (Array.getElem?_eq_getElem h2)
    exact (Array.getElem?_eq_some_iff.1 e2).1
/-- What was handed in is such a list. -/
theorem IntsP.m {w : World} {a : Option Addr} {zs : List Int} {sb : Nat} (h : IntsP w a zs) (hn : nonneg zs = true) (hsb : ∀ ad, a = some ad → ad.block < w.heap.size → ad.block ≠ sb) : SlM w a (zs.map Int.toNat) sb := by
  have hz : ∀ z ∈ zs, 0 ≤ z := fun z hz => by
    unfold nonneg at hn
    have := List.all_eq_true.1 hn z hz
    simpa using this
  refine ⟨fun k hk => ?_, ?_⟩
  · obtain ⟨z, h1, rfl⟩ := List.mem_map.1 hk
    have := h.1 z h1
    omega
  · rcases h.2 with h1 | ⟨g, o, h1, h2, h3⟩
    · exact .inl (by rw [h1]; rfl)
    · refine .inr ⟨g, o, h1, h2, hsb _ h1 h2, fun j k hj => ?_⟩
      rw [List.getElem?_map] at hj
      obtain ⟨z, h5, rfl⟩ := Option.map_eq_some_iff.1 hj
      rw [h3 j z h5]
      have := hz z (List.mem_of_getElem? h5)
      congr 2
      omega
theorem pmay_m {w : World} {a : Option Addr} {ks : List Nat} {sb : Nat} (cap : Nat) (h : SlM w a ks sb) (hl : ks.length ≤ 17592186043904) : Calls Try.prog 24 #[.slice a ks.length cap] w fun e w' => e = .returned (.bool true) ∧ w' = w := by
  have hi : IntsP w a (ks.map fun k : Nat => (k : Int)) := by
    refine ⟨fun z hz => ?_, ?_⟩
    · obtain ⟨k, hk, rfl⟩ := List.mem_map.1 hz
      have := h.1 k hk
      omega
    · rcases h.2 with h1 | ⟨g, o, h1, h2, _, h3⟩
      · exact .inl (by rw [h1]; rfl)
      · refine .inr ⟨g, o, h1, h2, fun i z hz => ?_⟩
        rw [List.getElem?_map] at hz
        obtain ⟨k, hk, rfl⟩ := Option.map_eq_some_iff.1 hz
        exact h3 i k hk
  have hn : nonneg (ks.map fun k : Nat => (k : Int)) = true := by
    unfold nonneg
    refine List.all_eq_true.2 fun z hz => ?_
    obtain ⟨k, hk, rfl⟩ := List.mem_map.1 hz
    simp
  have k := pmayI cap ks.length hi (by simp) hl
  rwa [hn] at k
section
variable {w : World} {b : Nat} {L : Lay} {σ : St} {a : Option Addr} {kp : List Nat}
set_option maxRecDepth 100000 in
set_option maxHeartbeats 1000000 in
theorem plose_m (cap : Nat) (h : DevL w b L σ) (hok : σ.Ok) (hk : SlM w a kp L.sb) (hkl : kp.length ≤ 17592186043904) : Calls Try.prog 30 #[.pointer (some ⟨b, 0, none⟩), .slice a kp.length cap] w fun e w' =>
    e = .returned (.tuple #[]) ∧ ∃ L' σ', Lost σ kp σ' ∧ DevL w' b L' σ' ∧ (∀ k, Foot b L' σ' k → Foot b L σ k ∨ w.heap.size ≤ k) ∧ Gr (fun k => k = b ∨ k = L.sb) w w' ∧ L'.N ≤ L.N ∧ L'.KB = L.KB := by
  have c2 := h.c2
  have HD := hide h
  have HOK := hide hok
  have HK := hide hk
  clear h hok hk
  generalize hm : kp.length = m at *
  have HM := hide hm
  clear hm
  go_enter Try.func30, Try.ntmps30
  go_wp2_with (at_range; refine wpList_range_ptr rfl (.tmp 10) rfl L.ob L.N (oldF L σ) (by kernel_rfl) HD.out.old ?_; intro W0 hrg0 hg0 hs0; have HRG0 := hide hrg0; have HG0 := hide hg0; have HS0 := hide hs0; clear hrg0 hg0 hs0)
  go_frame
  go_loopw [] (fun wr => ∃ left bs, LosR w b L σ kp w.heap.size wr left bs) (fun wr => wr.rangeLeft L.ob w.heap.size)
  case atStart => exact ⟨_, _, LosR.start HD.out HOK.out HRG0.out HG0.out⟩
  case round =>
    obtain ⟨left, bs, hF⟩ := hrel
    have HF := hide hF
    clear hF
    go_wp2_with (at_next; refine wpList_next_g ptrL rfl (.tmp 11) rfl L.ob w.heap.size L.N (oldF L σ) left (by kernel_rfl) HF.out.ran ?_ ?_)
    · intro hl0
      have ks := psettle_any HF.out.dev.dev
      have hd2 := dev_settle HF.out.dev
      have c7 := hd2.c7
      have f7 := hd2.fz 7
      have KS := hide ks
      have HL0 := hide hl0
      have HD2 := hide hd2
      clear ks hl0 hd2 c2
      go_wp2_with (go_at_call 38; refine (KS.out).mono ?_; rintro e w' ⟨rfl, hw'⟩; obtain rfl := hw')
      go_end0
      have hdf : DevL ((setW wr b).setCell ⟨b, 7, none⟩ (.bool true)) b { L with ob := wr.heap.size, fb := wr.heap.size + 1, N := 0 } { ({ σ with bytes := bs } : St).settled with off := true } := HD2.out.re (ops := σ.ops) (cnt := σ.cnt) (off := true) (by rw [heap_set1 _ b 7 _ _ _ HD2.out.dev]; rfl) (fun k hk _ => heap_set_ne _ b 7 k _ hk)
      refine ⟨rfl, _, { ({ σ with bytes := bs } : St).settled with off := true }, ⟨rfl, rfl, rfl, rfl, rfl, rfl, rfl, HF.out.len, HF.out.byte, fun j hj => ?_⟩, hdf, fun k hk => ?_, ?_, Nat.zero_le _, rfl⟩
      · have h5 := HF.out.lines j hj
        rw [HL0.out] at h5
        exact h5
      · have := HF.out.gr.size
        rcases hk with h | h | h | h | ⟨i, hi, _⟩ | h | h
        · exact .inl (.inl h)
        · exact .inl (.inr (.inl h))
        · exact .inr (by rw [h]; exact this)
        · exact .inr (by rw [h]; show w.heap.size ≤ wr.heap.size + 1; omega)
        · exact absurd rfl hi
        · exact .inl (.inr (.inr (.inr (.inr (.inr (.inl h))))))
        · exact .inl (.inr (.inr (.inr (.inr (.inr (.inr h))))))
      · have h5 := (setW_facts HF.out.dev.dev).2.2.2.1
        exact ((HF.out.gr.mono (fun k h => .inr h) : Gr (fun k => k = b ∨ k = L.sb) w wr).trans h5 (fun i h => .inl (.inl h))).trans (Gr.set _ b 7 _ (X := fun k => k = b) rfl) (fun i h => .inl (.inl h))
    · intro x p w1 hwx hfx hlx hrg1 hlt hg1 hs1 hen
      dsimp only [ptrV] at hen ⊢
      obtain ⟨hD1, hG1⟩ := HF.out.next hg1 (Nat.le_refl _)
      obtain ⟨i, rfl, hpi, rfl⟩ : ∃ i : Nat, x = (i : Int) ∧ σ.past i ≠ [] ∧ p = L.pb i := by
        unfold oldF at hfx
        split at hfx
        · rename_i h5
          cases hfx
          exact ⟨x.toNat, by omega, h5.2, rfl⟩
        · cases hfx
      have hi : i < σ.n := Nat.lt_of_not_le fun h5 => hpi (HOK.out.out i h5)
      have hP : PastAt w1 (L.pb i) (L.rv i) (σ.past i) := hD1.pasts i hpi
      have hfew := HOK.out.few i
      have hopm := HOK.out.opsm
      obtain ⟨rs, hR, hex⟩ := hP.runs
      obtain ⟨n, hn⟩ : ∃ n, n = (σ.past i).length := ⟨_, rfl⟩
      have hn0 : 0 < n := by rw [hn]; exact List.length_pos_iff.2 hpi
      have cn : w1.cell? ⟨L.pb i, 1, none⟩ = some (.int .i64 (n : Int)) := by rw [hn]; exact cell8 hP.1 1
      have ka := fun k c (hc : (σ.past i)[k]? = some c) (X : World) (hX : PastR X (L.pb i) (L.rv i) (σ.past i).length rs) => pat_any (L.pb i) (σ.past i).length k (L.rv i) rs c X hX (by have := (List.getElem?_eq_some_iff.1 hc).1; omega) (by have h5 := exR_len rs hR.2.2; rw [hex] at h5; omega) (fun r hr => by
        obtain ⟨q, s, e⟩ := List.append_of_mem hr
        have h1 : (exR rs).length = (σ.past i).length := by rw [hex]
        rw [e, exR_append, exR_cut r.1 s r.2] at h1
        simp at h1
        omega) (by rw [hex]; exact hc)
      have c1 := hD1.c1
      have hkw := HK.out.keep (w' := w1) (fun k hk hne => hG1.block hk hne)
      have HR := hide hR
      have HD1 := hide hD1
      have HG1 := hide hG1
      have HRG1 := hide hrg1
      have HLT := hide hlt
      have HLX := hide hlx
      by_cases hik : i < m
      · obtain ⟨kk, hkk⟩ : ∃ kk, kp[i]? = some kk := ⟨_, List.getElem?_eq_getElem (by rw [HM.out]; exact hik)⟩
        obtain ⟨g, o, rfl, hck, hkb⟩ := hkw.at hkk
        obtain ⟨k, hkq⟩ : ∃ k, k = kk % (n + 1) := ⟨_, rfl⟩
        have hkle : k ≤ n := by have := Nat.mod_lt kk (show 0 < n + 1 by omega); omega
        have htm : (kk : Int).tmod ((n : Int) + 1) = (k : Int) := by rw [Int.tmod_eq_emod_of_nonneg (by omega), hkq, Int.natCast_emod]; rfl
        have hlk : lostK σ kp i = k := by unfold lostK; rw [hkk]; simp only; rw [← hn, hkq]
        have l0 := index_int g o i m cap hik
        have hikI : (i : Int) < (m : Int) := by omega
        have hnI : (n : Int) ≤ 1400000000000 := by omega
        have hnp : (0 : Int) < (n : Int) := by omega
        by_cases hkn : k < n
        · have hknI : (k : Int) < (n : Int) := by omega
          obtain ⟨c, hc⟩ : ∃ c, (σ.past i)[k]? = some c := ⟨_, List.getElem?_eq_getElem (by omega)⟩
          have hls : lost σ kp i = c := by unfold lost; rw [hlk, hc]; rfl
          have KA := hide (ka _ _ hc)
          have HC64 := hide (HOK.out.clen i c (List.mem_of_getElem? hc))
          have HCB := hide (HOK.out.cbyte i c (List.mem_of_getElem? hc))
          have HLOST := hide hls
          have SB := hide c1
          clear ka hls hc hlk hn hP hR hex hfew hopm hD1 hG1 hrg1 hlt hg1 hs1 hfx hlx hpi hkw c2 HM HK hkl c1 hkk hkq hik hkn hn0 hkle
          go_wp2_with (fail)
          go_quiet (fail)
          go_wp2_with (fail)
          refine wp_region_early 9 (fun X => X.cell? ⟨b, 1, none⟩ = some (.slice (some ⟨L.sb, 0, none⟩) σ.n L.cp)) (by kernel_rfl) SB.out (fun hS => ?_)
          refine wpAnyE_take (i := 0) (v := (.pointer (some ⟨b, 0, none⟩))) rfl (by kernel_rfl) (by kernel_rfl) (by kernel_rfl) (by kernel_rfl) (fun _ _ _ h => h) (Or.inl ⟨by kernel_rfl, fun w' hw => by (go_simp)⟩) hS ?_
          refine wpAnyE_take (i := 1) (v := (.pointer (some ⟨b, 0, none⟩))) rfl (by kernel_rfl) (by kernel_rfl) (by kernel_rfl) (by kernel_rfl) (fun _ _ _ h => h) (Or.inl ⟨by kernel_rfl, fun w' hw => by (go_simp)⟩) hS ?_
          refine wpAnyE_take (i := 2) (v := (.pointer (some ⟨b, 1, none⟩))) rfl (by kernel_rfl) (by kernel_rfl) (by kernel_rfl) (by kernel_rfl) (fun _ _ _ h => h) (Or.inl ⟨by kernel_rfl, fun w' hw => by (go_simp)⟩) hS ?_
          refine wpAnyE_take (i := 3) (v := (.slice (some ⟨L.sb, 0, none⟩) σ.n L.cp)) rfl (by kernel_rfl) (by kernel_rfl) (by kernel_rfl) (by kernel_rfl) (fun _ _ _ h => h) (Or.inl ⟨by kernel_rfl, fun w' hw => by (go_simp)⟩) hS ?_
          refine wpAnyE_take (i := 4) (v := (.int .i64 (i : Int))) rfl (by kernel_rfl) (by kernel_rfl) (by kernel_rfl) (by kernel_rfl) (fun _ _ _ h => h) (Or.inl ⟨by kernel_rfl, fun w' hw => by (go_simp)⟩) hS ?_
          refine wpAnyE_take (i := 5) (v := (.pointer (some ⟨L.pb i, 0, none⟩))) rfl (by kernel_rfl) (by kernel_rfl) (by kernel_rfl) (by kernel_rfl) (fun _ _ _ h => h) (Or.inl ⟨by kernel_rfl, fun w' hw => by (go_simp)⟩) hS ?_
          refine wpAnyE_take (i := 6) (v := (.int .i64 (k : Int))) rfl (by kernel_rfl) (by kernel_rfl) (by kernel_rfl) (by kernel_rfl) (fun _ _ _ h => h) (Or.inl ⟨by kernel_rfl, fun w' hw => by (go_simp)⟩) hS ?_
          refine wpAnyE_do (i := 7) (by kernel_rfl) rfl (by kernel_rfl) (fun K hK => ?_)
          go_wp2_with (go_at_call 48; refine (KA.out _ ?hx).mono ?_; (case hx => exact HR.out); rintro e W4 ⟨rfl, hB⟩; have HB := hide (bseq ((below_drewN (Below.refl _ w1) nq).drew) hB : Below w1.heap.size w1 W4); clear hB)
          have s4 : W4.cell? ⟨b, 1, none⟩ = some (.slice (some ⟨L.sb, 0, none⟩) σ.n L.cp) := cell8 ((HB.out.block b (lt_of_heap HD1.out.dev)).trans HD1.out.dev) 1
          refine hK.out _ _ (fun _ => s4) ?_
          clear hK K
          refine wpAnyE_take (i := 8) (v := (.pointer (some ⟨L.sb, i * 64, none⟩))) rfl (by kernel_rfl) (by kernel_rfl) (by kernel_rfl) (by kernel_rfl) (fun _ _ _ h => h) (Or.inl ⟨by kernel_rfl, fun w' hw => by (have e := index_line L.sb i σ.n L.cp hi w'; go_simp)⟩) s4 ?_
          have th : W4.there L.sb (i * 64) (c.map B8).toArray.size := there_row ((HB.out.block _ (lt_of_heap HD1.out.seen)).trans HD1.out.seen) _ _ (by rw [List.size_toArray, List.length_map, List.length_append, List.length_map, HC64.out]; show _ ≤ bs.length + _; rw [HF.out.len]; omega)
          have TH := hide th
          clear th
          have si : (Try.prog.info? 61).map (·.size) = some (c.map B8).toArray.size := by rw [List.size_toArray, List.length_map, HC64.out]; kernel_rfl
          have SI := hide si
          clear si
          have S1 := hide (all_oneCell_toArray (B8_cell c))
          refine wpAnyE_store 61 (.tmp 45) (.tmp 44) L.sb (i * 64) (c.map B8).toArray (by kernel_rfl) rfl (by kernel_rfl) (by kernel_rfl) (by kernel_rfl) (by kernel_rfl) (by kernel_rfl) TH.out SI.out S1.out ?_
          simp only [Act.put, List.getElem_toArray, List.getElem_cons_zero, List.getElem_cons_succ, List.setIfInBounds_toArray, List.set_cons_zero, List.set_cons_succ]
          have hfin := LosR.other HD1.out HF.out.len HF.out.byte HF.out.lines HG1.out HRG1.out hi HC64.out HCB.out HLOST.out HB.out
          have FIN := hide hfin
          clear hfin
          go_wp2_with (fail)
          go_roundw
          case rel => exact ⟨_, _, FIN.out.1⟩
          case measure => rw [FIN.out.2]; exact HLT.out
        · have hknI : ¬ (k : Int) < (n : Int) := by omega
          have hls : lost σ kp i = σ.line i := by unfold lost; rw [hlk, List.getElem?_eq_none (by omega)]; rfl
          have HLOST := hide hls
          clear hkk hkq hik hkn hn0 hkle ka hls hlk hn hP hR hex hfew hopm hD1 hG1 hrg1 hlt hg1 hs1 hfx hlx hpi hkw c2 HM HK hkl c1
          go_wp2_with (fail)
          go_quiet (fail)
          go_wp2_with (fail)
          have hfin : LosR w b L σ kp w.heap.size (w1.drewN nq) (fun y => left y && !decide (y = (i : Int))) bs := LosR.same (HD1.out.keep (fun _ _ => rfl)) HF.out.len HF.out.byte HF.out.lines (HG1.out.drewN nq) (HRG1.out.kept rfl rfl).1 HLX.out HLOST.out
          exact ⟨⟨_, _, hfin⟩, HLT.out⟩
      · have hkk : kp[i]? = none := List.getElem?_eq_none (by rw [HM.out]; omega)
        have hlk : lostK σ kp i = 0 := by unfold lostK; rw [hkk]
        have hikI : ¬ (i : Int) < (m : Int) := by omega
        have hnI : (0 : Int) < (n : Int) := by omega
        obtain ⟨c, hc⟩ : ∃ c, (σ.past i)[0]? = some c := ⟨_, List.getElem?_eq_getElem (by omega)⟩
        have hls : lost σ kp i = c := by unfold lost; rw [hlk, hc]; rfl
        have KA := hide (ka _ _ hc)
        have HC64 := hide (HOK.out.clen i c (List.mem_of_getElem? hc))
        have HCB := hide (HOK.out.cbyte i c (List.mem_of_getElem? hc))
        have HLOST := hide hls
        have SB := hide c1
        clear ka hls hc hlk hn hP hR hex hfew hopm hD1 hG1 hrg1 hlt hg1 hs1 hfx hlx hpi hkw c2 HM HK hkl c1 hkk hik hn0
        go_wp2_with (fail)
        refine wp_region_early 9 (fun X => X.cell? ⟨b, 1, none⟩ = some (.slice (some ⟨L.sb, 0, none⟩) σ.n L.cp)) (by kernel_rfl) SB.out (fun hS => ?_)
        refine wpAnyE_take (i := 0) (v := (.pointer (some ⟨b, 0, none⟩))) rfl (by kernel_rfl) (by kernel_rfl) (by kernel_rfl) (by kernel_rfl) (fun _ _ _ h => h) (Or.inl ⟨by kernel_rfl, fun w' hw => by (go_simp)⟩) hS ?_
        refine wpAnyE_take (i := 1) (v := (.pointer (some ⟨b, 0, none⟩))) rfl (by kernel_rfl) (by kernel_rfl) (by kernel_rfl) (by kernel_rfl) (fun _ _ _ h => h) (Or.inl ⟨by kernel_rfl, fun w' hw => by (go_simp)⟩) hS ?_
        refine wpAnyE_take (i := 2) (v := (.pointer (some ⟨b, 1, none⟩))) rfl (by kernel_rfl) (by kernel_rfl) (by kernel_rfl) (by kernel_rfl) (fun _ _ _ h => h) (Or.inl ⟨by kernel_rfl, fun w' hw => by (go_simp)⟩) hS ?_
        refine wpAnyE_take (i := 3) (v := (.slice (some ⟨L.sb, 0, none⟩) σ.n L.cp)) rfl (by kernel_rfl) (by kernel_rfl) (by kernel_rfl) (by kernel_rfl) (fun _ _ _ h => h) (Or.inl ⟨by kernel_rfl, fun w' hw => by (go_simp)⟩) hS ?_
        refine wpAnyE_take (i := 4) (v := (.int .i64 (i : Int))) rfl (by kernel_rfl) (by kernel_rfl) (by kernel_rfl) (by kernel_rfl) (fun _ _ _ h => h) (Or.inl ⟨by kernel_rfl, fun w' hw => by (go_simp)⟩) hS ?_
        refine wpAnyE_take (i := 5) (v := (.pointer (some ⟨L.pb i, 0, none⟩))) rfl (by kernel_rfl) (by kernel_rfl) (by kernel_rfl) (by kernel_rfl) (fun _ _ _ h => h) (Or.inl ⟨by kernel_rfl, fun w' hw => by (go_simp)⟩) hS ?_
        refine wpAnyE_take (i := 6) (v := (.int .i64 (0 : Int))) rfl (by kernel_rfl) (by kernel_rfl) (by kernel_rfl) (by kernel_rfl) (fun _ _ _ h => h) (Or.inl ⟨by kernel_rfl, fun w' hw => by (go_simp)⟩) hS ?_
        refine wpAnyE_do (i := 7) (by kernel_rfl) rfl (by kernel_rfl) (fun K hK => ?_)
        go_wp2_with (go_at_call 48; refine (KA.out _ ?hx).mono ?_; (case hx => exact HR.out); rintro e W4 ⟨rfl, hB⟩; have HB := hide (bseq ((Below.refl _ w1).drew) hB : Below w1.heap.size w1 W4); clear hB)
        have s4 : W4.cell? ⟨b, 1, none⟩ = some (.slice (some ⟨L.sb, 0, none⟩) σ.n L.cp) := cell8 ((HB.out.block b (lt_of_heap HD1.out.dev)).trans HD1.out.dev) 1
        refine hK.out _ _ (fun _ => s4) ?_
        clear hK K
        refine wpAnyE_take (i := 8) (v := (.pointer (some ⟨L.sb, i * 64, none⟩))) rfl (by kernel_rfl) (by kernel_rfl) (by kernel_rfl) (by kernel_rfl) (fun _ _ _ h => h) (Or.inl ⟨by kernel_rfl, fun w' hw => by (have e := index_line L.sb i σ.n L.cp hi w'; go_simp)⟩) s4 ?_
        have th : W4.there L.sb (i * 64) (c.map B8).toArray.size := there_row ((HB.out.block _ (lt_of_heap HD1.out.seen)).trans HD1.out.seen) _ _ (by rw [List.size_toArray, List.length_map, List.length_append, List.length_map, HC64.out]; show _ ≤ bs.length + _; rw [HF.out.len]; omega)
        have TH := hide th
        clear th
        have si : (Try.prog.info? 61).map (·.size) = some (c.map B8).toArray.size := by rw [List.size_toArray, List.length_map, HC64.out]; kernel_rfl
        have SI := hide si
        clear si
        have S1 := hide (all_oneCell_toArray (B8_cell c))
        refine wpAnyE_store 61 (.tmp 45) (.tmp 44) L.sb (i * 64) (c.map B8).toArray (by kernel_rfl) rfl (by kernel_rfl) (by kernel_rfl) (by kernel_rfl) (by kernel_rfl) (by kernel_rfl) TH.out SI.out S1.out ?_
        simp only [Act.put, List.getElem_toArray, List.getElem_cons_zero, List.getElem_cons_succ, List.setIfInBounds_toArray, List.set_cons_zero, List.set_cons_succ]
        have hfin := LosR.other HD1.out HF.out.len HF.out.byte HF.out.lines HG1.out HRG1.out hi HC64.out HCB.out HLOST.out HB.out
        have FIN := hide hfin
        clear hfin
        go_wp2_with (fail)
        go_roundw
        case rel => exact ⟨_, _, FIN.out.1⟩
        case measure => rw [FIN.out.2]; exact HLT.out
theorem plose_ma (cap : Nat) (h : DevL w b L σ) (hok : σ.Ok) (hk : SlM w a kp L.sb) (hkl : kp.length ≤ 17592186043904) : Calls Try.prog 30 #[.pointer (some ⟨b, 0, none⟩), .slice a kp.length cap] w fun e w' =>
    e = .returned (.tuple #[]) ∧ ∃ L' σ', Lost σ kp σ' ∧ DevL w' b L' σ' ∧ (∀ k, Foot b L' σ' k → Foot b L σ k ∨ w.heap.size ≤ k) ∧ Gr (fun k => k = b ∨ k = L.sb) w w' ∧ L'.N ≤ L.N :=
  (plose_m cap h hok hk hkl).mono fun e w' ⟨h0, L', σ', h1, h2, h3, h4, h5, _⟩ => ⟨h0, L', σ', h1, h2, h3, h4, h5⟩

theorem pcrash_m (cap : Nat) (h : DevL w b L σ) (hok : σ.Ok) (ho : σ.off = false) (hk : SlM w a kp L.sb) (hkl : kp.length ≤ 17592186043904) : Calls Try.prog 11 #[.pointer (some ⟨b, 0, none⟩), .slice a kp.length cap] w fun e w' =>
    e = .returned (.int .i64 0) ∧ ∃ L' σ', Lost σ kp σ' ∧ DevL w' b L' σ' ∧ (∀ k, Foot b L' σ' k → Foot b L σ k ∨ w.heap.size ≤ k) ∧ Gr (fun k => k = b ∨ k = L.sb) w w' ∧ L'.N ≤ L.N := by
  have ks := pstate_any h
  rw [ho] at ks
  simp only [Bool.false_eq_true, if_false] at ks
  have KS := hide ks
  have KM := hide (pmay_m cap hk hkl)
  have KL := hide (plose_ma cap h hok hk hkl)
  clear h hok hk ks
  go_enter Try.func11, Try.ntmps11
  go_wp2_with (first | (go_at_call 23; refine (KS.out).mono ?_; rintro e w' ⟨rfl, hw⟩; obtain rfl := hw.symm) | (go_at_call 24; refine (KM.out).mono ?_; rintro e w' ⟨rfl, hw⟩; obtain rfl := hw.symm) | (go_at_call 30; refine (KL.out).mono ?_; rintro e w' ⟨rfl, hw⟩; have HW := hide hw; clear hw))
  go_ret
  exact ⟨rfl, HW.out⟩
end
end Go.Proofs.Ytmljacjbpcgijaa
namespace Go.Proofs.Ytmljacjbpcgijaa
open Go.RowKit Go.Shelf
set_option linter.unusedVariables false

def nmU : List UInt8 := [86, 69, 76, 76, 85, 77, 48, 49]
theorem sb_name (x : Int) (j : Nat) (hj : j < nmU.length) : (sbX x)[j]? = some (nmU[j]).toNat := by
  have h : (sbX x)[j]? = sbName[j]? := by
    unfold sbX sbB sbPre
    have l8 : sbName.length = 8 := rfl
    have l9 : nmU.length = 8 := rfl
    rw [List.append_assoc, List.getElem?_append_left (by omega)]
  rw [h]
  have l9 : nmU.length = 8 := rfl
  obtain rfl | rfl | rfl | rfl | rfl | rfl | rfl | rfl : j = 0 ∨ j = 1 ∨ j = 2 ∨ j = 3 ∨ j = 4 ∨ j = 5 ∨ j = 6 ∨ j = 7 := by omega
  all_goals rfl
theorem OwnL.cell {w : World} {g : Nat} {bs : List Nat} (h : OwnL w g bs) (i x : Nat) (hx : bs[i]? = some x) : w.cell? ⟨g, i, none⟩ = some (.int .u8 (x : Int)) := by
  rw [cell8 h]
  simp [hx, B8]
theorem name_str {w : World} {g : Nat} {x : Int} (cap : Nat) (h : OwnL w g (sbX x)) : (convert 22 9 (.slice (some ⟨g, 0, none⟩) 8 cap)).run Try.prog w = .ok (.string ⟨#[86, 69, 76, 76, 85, 77, 48, 49]⟩) w := by
  refine run_convert_bytes_back (P := Try.prog) w 22 9 5 ⟨g, 0, none⟩ cap nmU Try.underlying22 Try.underlying5 Try.underlying9 (fun j hj => ?_)
  have e := h.cell j _ (sb_name x j hj)
  rw [Addr.add_mid, Nat.zero_add]
  exact e
theorem sb_8 : (sbX 36992)[8]? = some 128 ∧ (sbX 36992)[9]? = some 144 := by decide +kernel
set_option maxRecDepth 100000 in
set_option maxHeartbeats 400000 in
theorem works_any (w : World) : Calls Try.prog 7 #[] w fun e w' => e = .returned (.bool true) ∧ Below w.heap.size w w' := by
  have hk : okS 36992 := by unfold okS; omega
  have kp : ∀ W, Calls Try.prog 10 #[.int .i64 36992] W fun e w' => e = .returned (.tuple #[.agg #[.int .i64 36992, .int .i64 128, .int .i64 32768, .int .i64 32896, .int .i64 16], .int .i64 0]) ∧ Below W.heap.size W w' := fun W => plan_ok 36992 W hk
  have kl : ∀ W, Calls Try.prog 22 #[.agg #[.int .i64 36992, .int .i64 128, .int .i64 32768, .int .i64 32896, .int .i64 16]] W fun e w' => ∃ g, e = .returned (.tuple #[.slice (some ⟨g, 0, none⟩) 64 64, .int .i64 0]) ∧ OwnL w' g (sbX 36992) ∧ W.heap.size ≤ g ∧ Below W.heap.size W w' := fun W => line_ok 36992 W hk
  have s8 := sb_8
  have hg := Try.noGuard37
  have he := fun W => eql_su 36992 128 32768 32896 16 36992 128 32768 32896 16 W
  have hs : sameS 36992 128 32768 32896 16 36992 128 32768 32896 16 = true := by simp [sameS]
  rw [hs] at he
  have nm := fun W g cap h => name_str (w := W) (g := g) (x := 36992) cap h
  generalize sbX 36992 = sb at *
  have KP := hide kp
  have KL := hide kl
  have NM := hide nm
  have S8 := hide s8
  clear kp kl nm s8 hs hk
  go_enter Try.func7, Try.ntmps7
  go_wp2_with (first
    | (go_at_call 10; refine (KP.out _).mono ?_; rintro e W1 ⟨rfl, hB1⟩; have HB1 := hide hB1; clear hB1)
    | (go_at_call 22; refine (KL.out _).mono ?_; rintro e W2 ⟨g, rfl, ho2, hg2, hB2⟩; obtain ⟨c0, c1, c2, c3, c4⟩ := suBox (row_after hB2); have b8 := ho2.cell 8 _ S8.out.1; have b9 := ho2.cell 9 _ S8.out.2; have nm := NM.out W2 g 64 ho2; have h1 := HB1.out.alloc (o := .cells #[.int .i64 36992, .int .i64 128, .int .i64 32768, .int .i64 32896, .int .i64 16] 37) HB1.out.size; have HB2 := hide (h1.trans (hB2.mono h1.size)); clear ho2 hg2 hB2 h1))
  go_ret
  exact ⟨by simp, HB2.out⟩
end Go.Proofs.Ytmljacjbpcgijaa
namespace Go.Proofs.Ytmljacjbpcgijaa
open Go.RowKit Go.Shelf
set_option linter.unusedVariables false

theorem bytes_of_lines {a b : List Nat} {n : Nat} (ha : a.length = 64 * n) (hb : b.length = 64 * n) (h : ∀ j, j < n → (a.drop (64 * j)).take 64 = (b.drop (64 * j)).take 64) : a = b := by
  apply List.ext_getElem?
  intro i
  by_cases hi : i < 64 * n
  · have h1 := h (i / 64) (by omega)
    have h2 : ((a.drop (64 * (i / 64))).take 64)[i % 64]? = ((b.drop (64 * (i / 64))).take 64)[i % 64]? := by rw [h1]
    rw [List.getElem?_take, List.getElem?_take, if_pos (by omega), if_pos (by omega), List.getElem?_drop, List.getElem?_drop] at h2
    rwa [show 64 * (i / 64) + i % 64 = i by omega] at h2
  · rw [List.getElem?_eq_none (by omega), List.getElem?_eq_none (by omega)]
theorem words1 {at_ : Nat} (hat : at_ % 8 = 0) (h : at_ + 8 ≤ 4194304) : wordsOf at_ 8 = [at_ / 8] := by
  rw [wordsOf_eq at_ 8 h, if_neg (by omega)]
  have : (at_ + 8 - 1) / 8 - at_ / 8 + 1 = 1 := by omega
  rw [this]
  simp
theorem lines1 {at_ : Nat} (hat : at_ % 8 = 0) (h : at_ + 8 ≤ 4194304) : linesOf at_ 8 = [at_ / 64] := by
  unfold linesOf unitsV
  rw [if_neg (by omega)]
  unfold upto
  have e1 : (((at_ : Int) + (8 : Nat) - 1) / 64 - (at_ : Int) / 64 + 1).toNat = 1 := by omega
  rw [e1]
  simp
  omega
theorem leB_len (v : Nat) : (leB 8 v).length = 8 := by simp [leB]
section
variable {σ : St} {v at_ : Nat}
theorem wordA_bytes (hok : σ.Ok) (hat : at_ % 8 = 0) (hlen : at_ + 8 ≤ 64 * σ.n) : (wordA (leB 8 v) at_ σ (at_ / 8)).bytes = splice σ.bytes at_ (leB 8 v) := by
  have h := wordDo_bytes (bs := leB 8 v) (at_ := at_) (no := at_ / 8) hok.len (by omega) at_ (by omega) (by omega)
  show (wordDo (leB 8 v) at_ σ (at_ / 8)).bytes = _
  rw [h, hat, Nat.sub_self, List.drop_zero, List.take_of_length_le (by rw [leB_len]; omega)]
theorem wordA_past (i : Nat) : (wordA (leB 8 v) at_ σ (at_ / 8)).past i = if i = at_ / 64 then σ.past (at_ / 64) ++ [σ.line (at_ / 64)] else σ.past i := by
  have e : at_ / 8 / 8 = at_ / 64 := by omega
  show (if i = at_ / 8 / 8 then σ.past (at_ / 8 / 8) ++ [σ.line (at_ / 8 / 8)] else σ.past i) = _
  rw [e]
/-- Other lines are as they were. -/
theorem other_line {l p : List Nat} {n j : Nat} (hl : l.length = 64 * n) (hp : at_ % 64 + p.length ≤ 64) (hat : at_ / 64 < n) (hj : j ≠ at_ / 64) : ((splice l at_ p).drop (64 * j)).take 64 = (l.drop (64 * j)).take 64 := by
  apply List.ext_getElem?
  intro i
  rw [List.getElem?_take, List.getElem?_take]
  by_cases hi : i < 64
  · rw [if_pos hi, if_pos hi, List.getElem?_drop, List.getElem?_drop, splice_get l p at_ (64 * j + i) (by omega)]
    by_cases h1 : 64 * j + i < at_
    · rw [if_pos h1]
    · rw [if_neg h1, if_neg (by omega)]
  · rw [if_neg hi, if_neg hi]
theorem lost_one {t s : St} {kp : List Nat} (hl : σ.bytes.length = 64 * σ.n) (hat : at_ % 8 = 0) (hlen : at_ + 8 ≤ 64 * σ.n) (htn : t.n = σ.n) (htb : t.bytes = splice σ.bytes at_ (leB 8 v)) (htp : ∀ i, t.past i = if i = at_ / 64 then [σ.line (at_ / 64)] else []) (h : Lost t kp s) : s.bytes = splice σ.bytes at_ (leB 8 v) ∨ s.bytes = σ.bytes := by
  have hlw : (splice σ.bytes at_ (leB 8 v)).length = 64 * σ.n := by rw [length_splice _ _ _ (by rw [leB_len]; omega), hl]
  have hsl : s.bytes.length = 64 * σ.n := by rw [h.len, htn]
  have hlines : ∀ j, j < σ.n → s.line j = lost t kp j := fun j hj => h.lines j (by rw [htn]; exact hj)
  have hne : ∀ j, j ≠ at_ / 64 → lost t kp j = t.line j := fun j hj => by
    unfold lost
    rw [htp j, if_neg hj]
    simp
  have htl : ∀ j, t.line j = ((splice σ.bytes at_ (leB 8 v)).drop (64 * j)).take 64 := fun j => by unfold St.line; rw [htb]
  by_cases hk : lost t kp (at_ / 64) = t.line (at_ / 64)
  · left
    refine bytes_of_lines hsl hlw (fun j hj => ?_)
    have h1 : s.line j = t.line j := by
      rw [hlines j hj]
      by_cases e : j = at_ / 64
      · rw [e]; exact hk
      · exact hne j e
    rw [← htl j]
    exact h1
  · right
    have hk2 : lost t kp (at_ / 64) = σ.line (at_ / 64) := by
      unfold lost at hk ⊢
      rw [htp, if_pos rfl] at hk ⊢
      cases hq : lostK t kp (at_ / 64) with
      | zero => rfl
      | succ q => rw [hq] at hk; simp at hk
    refine bytes_of_lines hsl hl (fun j hj => ?_)
    have h1 : s.line j = (σ.bytes.drop (64 * j)).take 64 := by
      rw [hlines j hj]
      by_cases e : j = at_ / 64
      · rw [e]; exact hk2
      · rw [hne j e, htl j]
        exact other_line hl (by rw [leB_len]; omega) (by omega) e
    exact h1
theorem lost_none {t s : St} {kp : List Nat} (hl : t.bytes.length = 64 * t.n) (htp : ∀ i, t.past i = []) (h : Lost t kp s) : s.bytes = t.bytes := by
  refine bytes_of_lines (n := t.n) h.len hl (fun j hj => ?_)
  have h1 : s.line j = t.line j := by
    rw [h.lines j hj]
    unfold lost
    rw [htp j]
    simp
  exact h1
/-- What Publish leaves of a device whose lines had one content each, where a loss waits behind n operations. -/
theorem pub_whole {s : St} {c : Int} {n : Nat} {kp : List Nat} (hok : σ.Ok) (hp : ∀ i, σ.past i = []) (hc0 : σ.cnt = 0) (ho0 : σ.ops = 0) (hoff : σ.off = false) (ha : σ.arms = [(n, kp)]) (h1 : 1 ≤ n) (h4 : n ≤ 4) (hat : at_ % 8 = 0) (hlen : at_ + 8 ≤ 64 * σ.n) (hv : v < 18446744073709551616) (h : PubD v at_ σ c s) :
    s.Ok ∧ s.n = σ.n ∧ ((n ≤ 3 ∧ c = 5 ∧ s.off = true ∧ (s.bytes = splice σ.bytes at_ (leB 8 v) ∨ n < 3 ∧ s.bytes = σ.bytes)) ∨ (n = 4 ∧ c = 0 ∧ s.off = false ∧ s.bytes = splice σ.bytes at_ (leB 8 v) ∧ ∀ i, s.past i = [])) := by
  have hm := hok.max
  have hl2 : at_ + 8 ≤ 4194304 := by omega
  unfold PubD at h
  rw [words1 hat hl2, lines1 hat hl2] at h
  have hlw : (splice σ.bytes at_ (leB 8 v)).length = 64 * σ.n := by rw [length_splice _ _ _ (by rw [leB_len, hok.len]; omega), hok.len]
  have hb1 := wordA_bytes (σ := σ) (v := v) hok hat hlen
  have hp1 : ∀ i, (wordA (leB 8 v) at_ σ (at_ / 8)).past i = if i = at_ / 64 then [σ.line (at_ / 64)] else [] := fun i => by
    rw [wordA_past]
    by_cases e : i = at_ / 64
    · rw [if_pos e, if_pos e, hp]; rfl
    · rw [if_neg e, if_neg e, hp]
  obtain ⟨q1, q2⟩ := word_part (at_ := at_) (no := at_ / 8) (leB_lt 8 v) hok (by omega)
  have hk1 : St.Ok { wordA (leB 8 v) at_ σ (at_ / 8) with ops := σ.ops + 1 } := put_ok hok (by omega) q1 q2 (by omega)
  have hs1e : writeG (leB 8 v) at_ σ [at_ / 8] = tick (wordA (leB 8 v) at_ σ (at_ / 8)) := rfl
  rcases h with ⟨rfl, hw⟩ | ⟨s1, hw, h⟩
  · rcases hw with ⟨e, _⟩ | ⟨_, pre, no, hpre, hop⟩
    · cases e
    · obtain ⟨rfl, rfl⟩ : pre = [] ∧ no = at_ / 8 := by
        have hl := hpre.length_le
        simp at hl
        subst hl
        obtain ⟨t, ht⟩ := hpre
        simp at ht
        exact ⟨rfl, ht.1⟩
      have hop : Opd (wordA (leB 8 v) at_ σ (at_ / 8)) 5 s := hop
      rcases hop with ⟨e, _⟩ | ⟨af, kp', e, ⟨_, e2, _⟩ | ⟨e1, _, hL⟩⟩
      · have e : σ.arms = [] := e
        rw [ha] at e; cases e
      · cases e2
      · have e : σ.arms = [(af, kp')] := e
        rw [ha] at e
        cases e
        have e1 : n ≤ σ.cnt + 1 := e1
        rw [hc0] at e1
        have hokL : St.Ok { wordA (leB 8 v) at_ σ (at_ / 8) with ops := σ.ops + 1, arms := [], cnt := 0 } := ⟨hk1.pos, hk1.max, hk1.len, hk1.byte, hk1.out, hk1.clen, hk1.cbyte, hk1.few, hk1.flp, hk1.opsm⟩
        refine ⟨Lost.ok hokL hL, hL.n, .inl ⟨by omega, rfl, hL.off, ?_⟩⟩
        rcases lost_one (t := { wordA (leB 8 v) at_ σ (at_ / 8) with ops := σ.ops + 1, arms := [], cnt := 0 }) hok.len hat hlen rfl hb1 hp1 hL with r | r
        · exact .inl r
        · exact .inr ⟨by omega, r⟩
  · obtain ⟨es1, hf1⟩ := hw.zero
    rw [hs1e] at es1
    have hn1 := hf1 n kp ha (by simp)
    rw [hc0] at hn1
    simp only [List.length_singleton] at hn1
    subst es1
    have hk1' := tick_ok hk1
    have ha1 : (tick (wordA (leB 8 v) at_ σ (at_ / 8))).arms = [(n, kp)] := ha
    have hc1 : (tick (wordA (leB 8 v) at_ σ (at_ / 8))).cnt = 1 := by
      show (if σ.arms = [] then σ.cnt else σ.cnt + 1) = 1
      rw [if_neg (by rw [ha]; simp), hc0]
    have ho1 : (tick (wordA (leB 8 v) at_ σ (at_ / 8))).ops = 1 := by show σ.ops + 1 = 1; rw [ho0]
    have hn1' : (tick (wordA (leB 8 v) at_ σ (at_ / 8))).n = σ.n := rfl
    have hb1' : (tick (wordA (leB 8 v) at_ σ (at_ / 8))).bytes = splice σ.bytes at_ (leB 8 v) := hb1
    have hp1' : ∀ i, (tick (wordA (leB 8 v) at_ σ (at_ / 8))).past i = if i = at_ / 64 then [σ.line (at_ / 64)] else [] := hp1
    have hof1 : (tick (wordA (leB 8 v) at_ σ (at_ / 8))).off = false := hoff
    generalize tick (wordA (leB 8 v) at_ σ (at_ / 8)) = s1 at *
    have hk2 : St.Ok { flA s1 (at_ / 64) with ops := s1.ops + 1 } := flush_ok hk1' (at_ / 64) (by omega)
    rcases h with ⟨rfl, hfl⟩ | ⟨s2, hfl, hop⟩
    · rcases hfl with ⟨e, _⟩ | ⟨_, pre, no, hpre, hop⟩
      · cases e
      · obtain ⟨rfl, rfl⟩ : pre = [] ∧ no = at_ / 64 := by
          have hl := hpre.length_le
          simp at hl
          subst hl
          obtain ⟨t, ht⟩ := hpre
          simp at ht
          exact ⟨rfl, ht.1⟩
        have hop : Opd (flA s1 (at_ / 64)) 5 s := hop
        rcases hop with ⟨e, _⟩ | ⟨af, kp', e, ⟨_, e2, _⟩ | ⟨e1, _, hL⟩⟩
        · have e : s1.arms = [] := e
          rw [ha1] at e; cases e
        · cases e2
        · have e : s1.arms = [(af, kp')] := e
          rw [ha1] at e
          cases e
          have e1 : n ≤ s1.cnt + 1 := e1
          rw [hc1] at e1
          have hokL : St.Ok { flA s1 (at_ / 64) with ops := s1.ops + 1, arms := [], cnt := 0 } := ⟨hk2.pos, hk2.max, hk2.len, hk2.byte, hk2.out, hk2.clen, hk2.cbyte, hk2.few, hk2.flp, hk2.opsm⟩
          refine ⟨Lost.ok hokL hL, hL.n.trans hn1', .inl ⟨by omega, rfl, hL.off, ?_⟩⟩
          rcases lost_one (t := { flA s1 (at_ / 64) with ops := s1.ops + 1, arms := [], cnt := 0 }) hok.len hat hlen hn1' hb1' hp1' hL with r | r
          · exact .inl r
          · exact .inr ⟨by omega, r⟩
    · obtain ⟨es2, hf2⟩ := hfl.zero
      have hn2 := hf2 n kp ha1 (by simp)
      rw [hc1] at hn2
      simp only [List.length_singleton] at hn2
      have es2 : s2 = tick (flA s1 (at_ / 64)) := es2
      have hp2 : (fnA s2).past = fun _ => [] := by
        funext i
        rw [es2]
        show fenP (tick (flA s1 (at_ / 64))) false i = []
        have hfi : (tick (flA s1 (at_ / 64))).fl i = if i = at_ / 64 ∧ s1.past (at_ / 64) ≠ [] then some (s1.past (at_ / 64)).length else s1.fl i := rfl
        have hpi : (tick (flA s1 (at_ / 64))).past i = s1.past i := rfl
        unfold fenP
        rw [hfi, hpi]
        by_cases e : i = at_ / 64
        · rw [if_pos ⟨e, by rw [hp1']; simp⟩, e]
          simp
        · rw [if_neg (fun h => e h.1), hp1' i, if_neg e]
          cases s1.fl i <;> simp
      have hb2 : (fnA s2).bytes = splice σ.bytes at_ (leB 8 v) := by rw [es2]; exact hb1'
      have ha2 : s2.arms = [(n, kp)] := by rw [es2]; exact ha1
      have hc2 : s2.cnt = 2 := by
        rw [es2]
        show (if s1.arms = [] then s1.cnt else s1.cnt + 1) = 2
        rw [if_neg (by rw [ha1]; simp), hc1]
      have hk2' : s2.Ok := by rw [es2]; exact tick_ok hk2
      have hs2n : s2.n = σ.n := by rw [es2]; exact hn1'
      have hs2o : s2.off = false := by rw [es2]; exact hof1
      have ho2 : s2.ops = 2 := by rw [es2]; show s1.ops + 1 = 2; rw [ho1]
      have hk3 : St.Ok { fnA s2 with ops := s2.ops + 1 } := fence_ok (σ := s2) hk2' (by omega)
      rcases hop with ⟨e, _⟩ | ⟨af, kp', e, ⟨e1, e2, e3⟩ | ⟨e1, e2, hL⟩⟩
      · have e : s2.arms = [] := e
        rw [ha2] at e; cases e
      · have e : s2.arms = [(af, kp')] := e
        rw [ha2] at e
        cases e
        have e1 : s2.cnt + 1 < n := e1
        rw [hc2] at e1
        subst e3
        refine ⟨⟨hk3.pos, hk3.max, hk3.len, hk3.byte, hk3.out, hk3.clen, hk3.cbyte, hk3.few, hk3.flp, hk3.opsm⟩, hs2n, .inr ⟨by omega, e2, hs2o, hb2, fun i => ?_⟩⟩
        show (fnA s2).past i = []
        rw [hp2]
      · have e : s2.arms = [(af, kp')] := e
        rw [ha2] at e
        cases e
        have e1 : n ≤ s2.cnt + 1 := e1
        rw [hc2] at e1
        have hokL : St.Ok { fnA s2 with ops := s2.ops + 1, arms := [], cnt := 0 } := ⟨hk3.pos, hk3.max, hk3.len, hk3.byte, hk3.out, hk3.clen, hk3.cbyte, hk3.few, hk3.flp, hk3.opsm⟩
        refine ⟨Lost.ok hokL hL, hL.n.trans hs2n, .inl ⟨by omega, e2, hL.off, .inl ?_⟩⟩
        refine (lost_none (t := { fnA s2 with ops := s2.ops + 1, arms := [], cnt := 0 }) hokL.len (fun i => ?_) hL).trans hb2
        show (fnA s2).past i = []
        rw [hp2]
end
end Go.Proofs.Ytmljacjbpcgijaa
namespace Go.Proofs.Ytmljacjbpcgijaa
open Go.RowKit Go.Shelf
set_option linter.unusedVariables false

section
variable {w : World} {b : Nat} {L : Lay} {σ : St}
set_option maxHeartbeats 400000 in
theorem format_no (h : DevL w b L σ) (hok : σ.Ok) (ho : σ.off = false) (hs : ¬ okS ((64 * σ.n : Nat) : Int)) :
    Calls Try.prog 9 #[.pointer (some ⟨b, 0, none⟩)] w fun e w' => e = .returned (.tuple #[.agg #[.int .i64 0, .int .i64 0, .int .i64 0, .int .i64 0, .int .i64 0], .int .i64 80]) ∧ Below w.heap.size w w' := by
  have hmx := hok.max
  have kl : ∀ W, Below w.heap.size w W → Calls Try.prog 26 #[.pointer (some ⟨b, 0, none⟩), .int .i64 0, .int .i64 0] W fun e w' => ∃ R, e = .returned (.tuple #[.slice (some ⟨R, 0, none⟩) 0 0, .int .i64 0]) ∧ Below W.heap.size W w' := fun W hB => by
    have k := callsIn_wide.1 (pload_in (at_ := 0) (n := 0) (h.below hB) hok ho (by omega))
    exact k.mono fun e w' ⟨R, h1, _, _, h4⟩ => ⟨R, h1, h4⟩
  obtain ⟨x, hx⟩ : ∃ x : Int, x = ((64 * σ.n : Nat) : Int) := ⟨_, rfl⟩
  have kz : ∀ W, Below w.heap.size w W → Calls Try.prog 27 #[.pointer (some ⟨b, 0, none⟩)] W fun e w' => e = .returned (.int .i64 x) ∧ w' = W := fun W hB => by
    rw [hx]
    exact psize_any (h.below hB) hok.max
  rw [← hx] at hs
  have kp : ∀ W, Calls Try.prog 10 #[.int .i64 x] W fun e w' => e = .returned (.tuple #[.agg #[.int .i64 0, .int .i64 0, .int .i64 0, .int .i64 0, .int .i64 0], .int .i64 80]) ∧ Below W.heap.size W w' := fun W => plan_no x W (by omega) (by omega) hs
  have KL := hide kl
  have KZ := hide kz
  have KP := hide kp
  have H0 := hide (show Below w.heap.size w (w.alloc (.cells #[.int .i64 0, .int .i64 0, .int .i64 0, .int .i64 0, .int .i64 0] 37)) from (Below.refl _ w).alloc (Nat.le_refl _) _)
  clear kl kz kp h hok ho hs hx hmx
  go_enter Try.func9, Try.ntmps9
  go_upto_region 6 with (first
    | (go_at_call 26; refine (KL.out _ H0.out).mono ?_; rintro e W1 ⟨R, rfl, hR3⟩; have hw1 := H0.out.trans (hR3.mono (by simp)); have hz1 := row_after hR3; have HW1 := hide hw1; have HZ1 := hide hz1; have KZ1 := hide (KZ.out W1 hw1); clear hR3 hw1 hz1)
    | (go_at_call 27; refine (KZ1.out).mono ?_; rintro e w' ⟨rfl, hw⟩; obtain rfl := hw.symm)
    | (go_at_call 10; refine (KP.out _).mono ?_; rintro e W2 ⟨rfl, hB2⟩; have HB2 := hide hB2; clear hB2))
  have a2 : Below W2.heap.size W2 (W2.alloc (.cells #[.int .i64 0, .int .i64 0, .int .i64 0, .int .i64 0, .int .i64 0] 37)) := (Below.refl _ W2).alloc (Nat.le_refl _) _
  have r1 := row_keep (row_keep HZ1.out HB2.out) a2
  have e2 : Below w.heap.size w W2 := bseq HW1.out HB2.out
  have e3 := e2.alloc (o := .cells #[.int .i64 0, .int .i64 0, .int .i64 0, .int .i64 0, .int .i64 0] 37) e2.size
  obtain ⟨⟨d0, d1, d2, d3, d4⟩, ⟨f0, f1, f2, f3, f4⟩, RR, _, BB⟩ := chain5 r1 (.int .i64 0) (.int .i64 0) (.int .i64 0) (.int .i64 0) (.int .i64 0)
  have R9 := hide RR
  have B9 := hide (BB w.heap.size w (Nat.le_refl _) e3)
  clear RR BB a2 r1 e2 e3
  go_wp2_with (fail)
  (try simp only [Exit.inBlock, Exit.then])
  refine bodyPost_ret (results_row_tmp rfl _ _ w.heap.size _ _ _ _ rfl R9.out Try.underlying37 rfl (by kernel_rfl)) rfl ?_
  exact ⟨rfl, B9.out⟩
set_option maxHeartbeats 400000 in
/-- Arm with a number below 0. -/
theorem parm_bad {af ga nk ck : Nat} {a : Option Addr} {zs : List Int} (h : DevL w b L σ) (ho : σ.off = false) (haf : 1 ≤ af) (hga : w.heap[ga]? = some (.cells #[.int .i64 (af : Int), .slice a nk ck] 35 (0, 0)))
    (hkl0 : zs.length = nk) (hnk9 : nk ≤ 17592186043904) (hk0 : IntsP w a zs) (hnn : nonneg zs = false) :
    Calls Try.prog 8 #[.pointer (some ⟨b, 0, none⟩), .slice (some ⟨ga, 0, none⟩) 1 1] w fun e w' => e = .returned (.int .i64 2) ∧ Below w.heap.size w w' := by
  have ks := pstate_any h
  rw [ho] at ks
  simp only [Bool.false_eq_true, if_false] at ks
  have km : ∀ W : World, Below w.heap.size w W → Calls Try.prog 24 #[.slice a nk ck] W fun e w' => e = .returned (.bool false) ∧ w' = W := fun W hB => by
    have h5 := pmayI (w := W) ck nk (hk0.below hB) hkl0 hnk9
    rwa [hnn] at h5
  have f0 : w.cell? ⟨ga, 0, none⟩ = some (.int .i64 (af : Int)) := cell8 hga 0
  have f1 : w.cell? ⟨ga, 1, none⟩ = some (.slice a nk ck) := cell8 hga 1
  have ix := fun Y => index_arm ga 1 1 (by omega) Y
  have KS := hide ks
  have KM := hide km
  have afI : ¬ (af : Int) < 1 := by omega
  have HB1 := hide (show Below w.heap.size w (w.alloc (.cells #[.int .i64 (af : Int), .slice a nk ck] 35)) from (Below.refl _ w).alloc (Nat.le_refl _) _)
  clear h ks km ho hga hkl0 hk0 hnn
  go_enter Try.func8, Try.ntmps8
  go_wp2_with (go_at_call 23; refine (KS.out).mono ?_; rintro e w' ⟨rfl, hw⟩; obtain rfl := hw.symm)
  go_loopw [18] (fun iv wr => iv = .int .i64 0 ∧ wr = w) (fun iv _ => (1 - (intOf iv).toNat))
  case atStart => exact ⟨rfl, rfl⟩
  case round =>
    obtain ⟨rfl, rfl⟩ := hrel
    go_wp2_with (go_at_call 24; refine (KM.out _ ?hx).mono ?_; (case hx => exact HB1.out); rintro e w' ⟨rfl, hw⟩; obtain rfl := hw.symm)
    go_ret
    exact ⟨rfl, HB1.out⟩
end
theorem slice_hi (g e n cap : Nat) (he : e ≤ n) (hn : n ≤ cap) (hsm : n ≤ 4194304) (w : World) : (Instr.sliceAt 22 (.slice (some ⟨g, 0, none⟩) n cap) none (some (.int .i64 (e : Int))) none).run Try.prog w = .ok (.slice (some ⟨g, 0, none⟩) e cap) w := by
  obtain ⟨it, h1, h2⟩ := info_of (t := 5) (n := 1) (by kernel_rfl)
  have hu : Try.prog.underlying 22 = some (.slice 5) := by kernel_rfl
  have c1 : (0 : Int) ≤ (e : Int) ∧ (e : Int) ≤ (cap : Int) := by omega
  have c2 : e ≤ cap := by omega
  simp [Instr.sliceAt, Instr.slice, Sem.run_bind, run_underlying hu, Instr.sliceBounds, Instr.sliceBound, asIntOf, sizeOf, typeInfo, h1, Addr.add_mid, c1, c2]
theorem slice_heads (g n : Nat) (hn : 193 ≤ n) (hsm : n ≤ 4194304) (w : World) : (Instr.sliceAt 22 (.slice (some ⟨g, 0, none⟩) n n) (some (.int .i64 64)) (some (.int .i64 192)) none).run Try.prog w = .ok (.slice (some ⟨g, 64, none⟩) 128 (n - 64)) w := by
  obtain ⟨it, h1, h2⟩ := info_of (t := 5) (n := 1) (by kernel_rfl)
  have hu : Try.prog.underlying 22 = some (.slice 5) := by kernel_rfl
  have c1 : (192 : Int) ≤ (n : Int) := by omega
  have e3 : ¬ n = 64 := by omega
  simp [Instr.sliceAt, Instr.slice, Sem.run_bind, run_underlying hu, Instr.sliceBounds, Instr.sliceBound, asIntOf, sizeOf, typeInfo, h1, h2, Addr.add_mid, c1, e3]
/-- Bytes are all 0. -/
theorem zero_any {w : World} {g o : Nat} (m cap : Nat) (bs : List Nat) (hl : bs.length = m) (hm : m ≤ 4194304) (h : ∀ i y : Nat, bs[i]? = some y → w.cell? ⟨g, o + i, none⟩ = some (.int .u8 (y : Int)) ∧ y < 256) (h0 : ∀ y ∈ bs, y = 0) :
    Calls Try.prog 17 #[.slice (some ⟨g, o, none⟩) m cap] w fun e w' => e = .returned (.bool true) ∧ w' = w := by
  have HL := hide hl
  have H := hide (fun i (hi : i < m) => show w.cell? ⟨g, o + i, none⟩ = some (.int .u8 0) by
    have e : bs[i]? = some bs[i] := List.getElem?_eq_getElem (by omega)
    have h5 := (h i _ e).1
    rw [h0 _ (List.getElem_mem (by omega))] at h5
    exact h5)
  clear hl h h0
  go_enter Try.func17, Try.ntmps17
  go_wp2
  go_loopw [3] (fun iv wr => ∃ j : Nat, iv = .int .i64 (j : Int) ∧ j ≤ m ∧ wr = w) (fun iv _ => (m - (intOf iv).toNat))
  case atStart => exact ⟨0, rfl, Nat.zero_le _, rfl⟩
  case round =>
    obtain ⟨j, rfl, hj, rfl⟩ := hrel
    by_cases hlt : j < m
    · have jI : (j : Int) < (m : Int) := by omega
      have hc := H.out j hlt
      have l0 := fun X => index_b8o g o j m cap hlt X
      go_wp2
      go_roundw
      case rel => exact ⟨j + 1, int_congrP (by omega), by omega, trivial⟩
      case measure => simp [intOf]; omega
    · have jI : ¬ (j : Int) < (m : Int) := by omega
      go_wp2
      go_ret
      exact ⟨rfl, rfl⟩
theorem leV_zero : ∀ bs : List Nat, (∀ y ∈ bs, y = 0) → leV bs = 0
  | [], _ => rfl
  | x :: bs, h => by
    have h1 := h x (by simp)
    have h2 := leV_zero bs (fun y hy => h y (by simp [hy]))
    unfold leV
    simp [h1, h2]
end Go.Proofs.Ytmljacjbpcgijaa
namespace Go.Proofs.Ytmljacjbpcgijaa
open Go.RowKit Go.Shelf
set_option linter.unusedVariables false

/-- The plan is told, the root is 0, the heads are 0. -/
structure Tells (x : Int) (t : St) : Prop where
  rd : rd t = ⟨x, 128, 32768, 32896, (x - 32896) / 256, 0⟩
  rt : rtV t = 0
  heads : ∀ y ∈ (t.bytes.drop 64).take 128, y = 0
theorem mem_heads {l : List Nat} (h : ∀ q, 64 ≤ q → q < 192 → l[q]? = some 0) : ∀ y ∈ (l.drop 64).take 128, y = 0 := by
  intro y hy
  obtain ⟨i, hi⟩ := List.getElem?_of_mem hy
  rw [List.getElem?_take] at hi
  split at hi
  · rw [List.getElem?_drop, h (64 + i) (by omega) (by omega)] at hi
    cases hi
    rfl
  · cases hi
theorem tells_of {x : Int} {t : St} (hx : x = ((64 * t.n : Nat) : Int)) (ho : t.off = false) (hs : okS x) (ht : t.bytes.take 64 = sbX x) (hh : ∀ q, 64 ≤ q → q < 192 → t.bytes[q]? = some 0) : Tells x t := by
  have hrd : Go.Proofs.Ytmljacjbpcgijaa.rd t = ⟨x, 128, 32768, 32896, (x - 32896) / 256, 0⟩ := by
    unfold Go.Proofs.Ytmljacjbpcgijaa.rd
    rw [← hx, if_neg (by rw [ho]; simp), if_pos ⟨hs, ht⟩]
  have hz := mem_heads hh
  refine ⟨hrd, ?_, hz⟩
  unfold rtV
  rw [hrd]
  simp only [if_true]
  refine leV_zero _ (fun y hy => hz y ?_)
  have e : (t.bytes.drop 64).take 8 = ((t.bytes.drop 64).take 128).take 8 := by rw [List.take_take]; rfl
  rw [e] at hy
  exact List.mem_of_mem_take hy
theorem take_of_get {l sb : List Nat} (hl : 64 ≤ l.length) (hs : sb.length = 64) (h : ∀ q, q < 64 → l[q]? = sb[q]?) : l.take 64 = sb := by
  refine List.ext_getElem? fun q => ?_
  rw [List.getElem?_take]
  split
  · exact h q (by omega)
  · rw [List.getElem?_eq_none (by omega)]
theorem drop_of_get {l m : List Nat} (h : ∀ q, 192 ≤ q → l[q]? = m[q]?) : l.drop 192 = m.drop 192 := by
  refine List.ext_getElem? fun q => ?_
  rw [List.getElem?_drop, List.getElem?_drop, h _ (by omega)]
theorem done_tells {x : Int} {σ s s' t : St} {kp : List Nat} (hx : x = ((64 * σ.n : Nat) : Int)) (hs : okS x) (hok : s.Ok) (hd : FmtDone (sbX x) σ s) (hL : Lost s kp s') (ht : t = { s' with off := false }) : Tells x t ∧ t.n = σ.n ∧ t.bytes.drop 192 = σ.bytes.drop 192 ∧ t.Ok := by
  have hb := lost_none hok.len hd.past hL
  have hn : s'.n = σ.n := hL.n.trans hd.n
  have hlen := hok.len
  have hnn := hd.n
  have h0 := hs.1
  have hok' := hL.ok hok
  subst ht
  refine ⟨tells_of (by rw [hx]; show _ = ((64 * s'.n : Nat) : Int); rw [hn]) rfl hs ?_ (fun q h1 h2 => ?_), hn, ?_, ?_⟩
  · show s'.bytes.take 64 = _
    rw [hb]
    refine take_of_get (by omega) (sbX_len x) (fun q hq => ?_)
    rw [hd.get q, if_pos hq]
  · show s'.bytes[q]? = _
    rw [hb, hd.get q, if_neg (by omega), if_pos h2]
  · show s'.bytes.drop 192 = _
    rw [hb]
    refine drop_of_get (fun q hq => ?_)
    rw [hd.get q, if_neg (by omega), if_neg (by omega)]
  · exact ⟨hok'.pos, hok'.max, hok'.len, hok'.byte, hok'.out, hok'.clen, hok'.cbyte, hok'.few, hok'.flp, hok'.opsm⟩
theorem lost_tells {x : Int} {σ s t : St} (hx : x = ((64 * σ.n : Nat) : Int)) (hs : okS x) (hlen : σ.bytes.length = 64 * σ.n) (hok : s.Ok) (hd : FmtLost σ s) (ht : t = { s with off := false }) : t.n = σ.n ∧ t.bytes.drop 192 = σ.bytes.drop 192 ∧ t.Ok ∧ (t.bytes.take 192 = σ.bytes.take 192 ∨ (t.bytes.take 192 ≠ σ.bytes.take 192 ∧ ((rd t).err = 100 ∨ Tells x t))) := by
  have h0 := hs.1
  have hn := hd.n
  subst ht
  refine ⟨hd.n, drop_of_get hd.rest, ⟨hok.pos, hok.max, hok.len, hok.byte, hok.out, hok.clen, hok.cbyte, hok.few, hok.flp, hok.opsm⟩, ?_⟩
  by_cases he : s.bytes.take 192 = σ.bytes.take 192
  · exact .inl he
  refine .inr ⟨he, ?_⟩
  by_cases ht : s.bytes.take 64 = sbX x
  · rcases fmt_super x (by omega) hd ht with h | h
    · exact absurd (by rw [h]) he
    · exact .inr (tells_of (by rw [hx]; show _ = ((64 * s.n : Nat) : Int); rw [hn]) rfl hs ht h)
  · left
    unfold rd
    rw [if_neg (by simp), if_neg]
    rintro ⟨_, h2⟩
    refine ht ?_
    have e : (((64 * s.n : Nat) : Int)) = x := by rw [hx, hn]
    rw [← e]
    exact h2
end Go.Proofs.Ytmljacjbpcgijaa
namespace Go.Proofs.Ytmljacjbpcgijaa
open Go.RowKit Go.Shelf
set_option linter.unusedVariables false

/-- A device that was laid behind w, and a row of bytes beside it. -/
structure SL (w W : World) (b : Nat) (L : Lay) (σ : St) (g : Nat) (bs : List Nat) : Prop where
  dev : DevL W b L σ
  own : OwnB W g bs
  bel : Below w.heap.size w W
  new : ∀ k, Foot b L σ k → w.heap.size ≤ k
  gn : ¬ Foot b L σ g
section
variable {w W W' : World} {b g : Nat} {L L' : Lay} {σ s : St} {bs : List Nat}
theorem SL.below (h : SL w W b L σ g bs) (hB : Below W.heap.size W W') : SL w W' b L σ g bs := ⟨h.dev.below hB, h.own.below hB h.own.lt, bseq h.bel hB, h.new, h.gn⟩
theorem SL.gr (h : SL w W b L σ g bs) (hd : DevL W' b L' s) (hf : ∀ k, Foot b L' s k → Foot b L σ k ∨ W.heap.size ≤ k) (hg : Gr (Foot b L σ) W W') : SL w W' b L' s g bs := by
  have e1 := h.bel.size
  have e2 := h.own.lt
  refine ⟨hd, ?_, ⟨hg.1.trans h.bel.os, hg.2.1.trans h.bel.tape, hg.2.2.1.trans h.bel.output, Nat.le_trans e1 hg.size, fun k hk => (hg.block (by omega) (fun hF => ?_)).trans (h.bel.block k hk)⟩, fun k hk => ?_, fun hk => ?_⟩
  · exact (hg.block e2 h.gn).trans h.own
  · have := h.new k hF; omega
  · rcases hf k hk with h1 | h1
    · exact h.new k h1
    · omega
  · rcases hf g hk with h1 | h1
    · exact h.gn h1
    · omega
theorem SL.keep (h : SL w W b L σ g bs) {a : Option Addr} {zs : List Int} (hk : IntsP w a zs) : IntsP W a zs := hk.below h.bel
end
/-- What stands ahead of Format. -/
def Ahead (w W : World) (b g m : Nat) (bs : List Nat) : Prop := ∃ (L : Lay) (σ : St), SL w W b L σ g bs ∧ σ.n = m ∧ σ.bytes = bs ∧ (∀ j, σ.past j = []) ∧ σ.off = false ∧ σ.Ok ∧ σ.ops = 0 ∧ σ.cnt = 0 ∧ L.N = 0 ∧ Few σ
theorem Ahead.below {w W W' : World} {b g m : Nat} {bs : List Nat} (h : Ahead w W b g m bs) (hB : Below W.heap.size W W') : Ahead w W' b g m bs := by
  obtain ⟨L, σ, h1, h2⟩ := h
  exact ⟨L, σ, h1.below hB, h2⟩
/-- Arm of what was handed in. -/
theorem arm_any {w W : World} {b g m af nk ck : Nat} {bs : List Nat} {a : Option Addr} {zs : List Int} {L : Lay} (h : SL w W b L (fromD m bs) g bs) (hok : (fromD m bs).Ok) (hLN : L.N = 0) (haf : 1 ≤ af) (hk : IntsP w a zs) (hl : zs.length = nk) (hnk : nk ≤ 17592186043904) (hck : nk ≤ ck) (hnil : a = none → zs = [] ∧ ck = 0) :
    Calls Try.prog 8 #[.pointer (some ⟨b, 0, none⟩), .slice (some ⟨W.heap.size, 0, none⟩) 1 1] (W.alloc (.cells #[.int .i64 (af : Int), .slice a nk ck] 35)) fun e w' => (e = .returned (.int .i64 2) ∧ Below w.heap.size w w') ∨ (e = .returned (.int .i64 0) ∧ Ahead w w' b g m bs) := by
  have hA : Below W.heap.size W (W.alloc (.cells #[.int .i64 (af : Int), .slice a nk ck] 35)) := (Below.refl _ W).alloc (Nat.le_refl _) _
  have hga := heap_alloc_new W (.cells #[.int .i64 (af : Int), .slice a nk ck] 35)
  have h1 := h.below hA
  have hav : ¬ L.av.ownBlock = some W.heap.size := fun e => by
    have := h.dev.foot_is (k := W.heap.size) (.inr (.inr (.inr (.inr (.inr (.inl e))))))
    omega
  have hmx := hok.max
  have fin : ∀ (kp : List Nat) (w' : World), (∀ x ∈ kp, x < 9223372036854775808) → kp.length ≤ 1400000000000 → (∃ L', DevL w' b L' { fromD m bs with arms := [(af, kp)] } ∧ (∀ k, Foot b L' { fromD m bs with arms := [(af, kp)] } k → Foot b L (fromD m bs) k ∨ (W.alloc (.cells #[.int .i64 (af : Int), .slice a nk ck] 35)).heap.size ≤ k) ∧ Gr (Foot b L (fromD m bs)) (W.alloc (.cells #[.int .i64 (af : Int), .slice a nk ck] 35)) w' ∧ L'.N ≤ L.N) → Ahead w w' b g m bs := fun kp w' hb hkl ⟨L', q1, q2, q3, q4⟩ => by
    refine ⟨L', _, h1.gr q1 q2 q3, rfl, rfl, fun _ => rfl, rfl, ?_, rfl, rfl, by omega, ⟨.inr ⟨af, kp, rfl, hb, hkl⟩, by show 0 < _; omega⟩⟩
    exact ⟨hok.pos, hok.max, hok.len, hok.byte, hok.out, hok.clen, hok.cbyte, hok.few, hok.flp, hok.opsm⟩
  have hzb : nonneg zs = true → ∀ k : Nat, ∀ x ∈ (zs.map Int.toNat).take k, x < 9223372036854775808 := fun _ k x hx => by
    obtain ⟨z, hz, rfl⟩ := List.mem_map.1 (List.mem_of_mem_take hx)
    have := hk.1 z hz
    omega
  cases hn : nonneg zs with
  | false =>
    refine (parm_bad h1.dev rfl haf hga hl hnk (h1.keep hk) hn).mono ?_
    rintro e w' ⟨rfl, hB⟩
    exact .inl ⟨rfl, bseq h1.bel hB⟩
  | true =>
    cases a with
    | none =>
      obtain ⟨rfl, rfl⟩ := hnil rfl
      obtain rfl : 0 = nk := hl
      refine (parm_nil h1.dev hok rfl rfl haf hga hav).mono ?_
      rintro e w' ⟨rfl, hq⟩
      exact .inr ⟨rfl, fin [] w' (by simp) (by simp) hq⟩
    | some ad =>
      refine (parm_gen (m := min nk m) h1.dev hok rfl rfl haf hga hl hnk rfl rfl hck (h1.keep hk) hn hav).mono ?_
      rintro e w' ⟨rfl, hq⟩
      exact .inr ⟨rfl, fin _ w' (hzb hn _) (by rw [List.length_take]; have : (fromD m bs).n = m := rfl; omega) hq⟩
/-- A block of a device: its struct, or its row of lines. -/
def DevT (W : World) (k : Nat) : Prop := ∃ f t, W.heap[k]? = some (.cells f t (0, 0)) ∧ (t = 57 ∨ t = 61)
theorem plan_kept {W W' : World} {k : Nat} {c : Array Value} (h : Gr (DevT W) W W') (hk : W.heap[k]? = some (.cells c 37 (0, 0))) : W'.heap[k]? = some (.cells c 37 (0, 0)) := by
  refine h.keep hk ?_
  rintro ⟨f, t, e, ht⟩
  rw [hk] at e
  cases e
  rcases ht with ht | ht <;> exact absurd ht (by decide)
/-- A device that is off; t is what it is when the power comes back. -/
def Asleep (w W : World) (b g : Nat) (bs : List Nat) (t : St) : Prop := ∃ L s, SL w W b L s g bs ∧ s.off = true ∧ t = { s with off := false } ∧ t.Ok
def Awaken (w W : World) (b g : Nat) (bs : List Nat) (t : St) : Prop := ∃ L, SL w W b L t g bs ∧ t.Ok
theorem Awaken.below {w W W' : World} {b g : Nat} {bs : List Nat} {t : St} (h : Awaken w W b g bs t) (hB : Below W.heap.size W W') : Awaken w W' b g bs t := by
  obtain ⟨L, h1, h2⟩ := h
  exact ⟨L, h1.below hB, h2⟩
theorem Asleep.below {w W W' : World} {b g : Nat} {bs : List Nat} {t : St} (h : Asleep w W b g bs t) (hB : Below W.heap.size W W') : Asleep w W' b g bs t := by
  obtain ⟨L, s, h1, h2⟩ := h
  exact ⟨L, s, h1.below hB, h2⟩
theorem wakes {w W : World} {b g : Nat} {bs : List Nat} {t : St} (h : Asleep w W b g bs t) : Calls Try.prog 12 #[.pointer (some ⟨b, 0, none⟩)] W fun e w' => e = .returned (.int .i64 0) ∧ Awaken w w' b g bs t ∧ Gr (DevT W) W w' := by
  obtain ⟨L, s, h1, h2, h3, h4⟩ := h
  refine (pwake_off h1.dev h2).mono ?_
  rintro e w' ⟨rfl, hw, hd⟩
  have hg : Gr (fun k => k = b) W w' := by rw [hw]; exact Gr.set W b 7 _ (X := fun k => k = b) rfl
  refine ⟨rfl, ⟨L, ?_, h4⟩, hg.mono (fun k hk => by rw [hk]; exact ⟨_, _, h1.dev.dev, .inl rfl⟩)⟩
  rw [h3]
  exact h1.gr hd (fun k hk => .inl hk) (hg.mono (fun k hk => .inl hk))
/-- All went well. -/
def Done (w W : World) (b g : Nat) (bs : List Nat) (x : Int) (σ : St) : Prop := ∃ L s, SL w W b L s g bs ∧ s.Ok ∧ FmtDone (sbX x) σ s
theorem Done.below {w W W' : World} {b g : Nat} {bs : List Nat} {x : Int} {σ : St} (h : Done w W b g bs x σ) (hB : Below W.heap.size W W') : Done w W' b g bs x σ := by
  obtain ⟨L, s, h1, h2⟩ := h
  exact ⟨L, s, h1.below hB, h2⟩
/-- What is told behind a Format that the power left. -/
def Cuts (x : Int) (σ t : St) : Prop := t.n = σ.n ∧ t.bytes.drop 192 = σ.bytes.drop 192 ∧ (t.bytes.take 192 = σ.bytes.take 192 ∨ (t.bytes.take 192 ≠ σ.bytes.take 192 ∧ ((rd t).err = 100 ∨ Tells x t)))
theorem formats {w W : World} {b g : Nat} {bs : List Nat} {L : Lay} {σ : St} {x : Int} (h : SL w W b L σ g bs) (hok : σ.Ok) (hp : ∀ j, σ.past j = []) (ho : σ.off = false) (hop : σ.ops = 0) (hcn : σ.cnt = 0) (hLN : L.N = 0) (hfw : Few σ) (hx : x = ((64 * σ.n : Nat) : Int)) (hs : okS x) :
    Calls Try.prog 9 #[.pointer (some ⟨b, 0, none⟩)] W fun e w' => (e = .returned (.tuple #[.agg #[.int .i64 x, .int .i64 128, .int .i64 32768, .int .i64 32896, .int .i64 ((x - 32896) / 256)], .int .i64 0]) ∧ Done w w' b g bs x σ) ∨ (e = .returned (.tuple #[.agg #[.int .i64 0, .int .i64 0, .int .i64 0, .int .i64 0, .int .i64 0], .int .i64 5]) ∧ ∃ t, Asleep w w' b g bs t ∧ Cuts x σ t) := by
  have k := format_ok h.dev hok ho (by omega) hfw (by omega) (by omega) (by rw [← hx]; exact hs)
  rw [← hx] at k
  refine k.mono ?_
  rintro e w' ⟨c, s, hR, hF, hO, hg, L', hd, hf, _⟩
  have hn3 : 3 ≤ σ.n := by have := hs.1; omega
  have hsl := h.gr hd hf hg
  rcases fmt_leaves hok ho hp hn3 (sbX_len x) (sbX_lt x) (by omega) hF with ⟨rfl, hD⟩ | ⟨rfl, hC⟩
  · rcases hR with ⟨_, rfl⟩ | ⟨h0, _⟩
    · exact .inl ⟨rfl, L', s, hsl, hO, hD⟩
    · cases h0
  · rcases hR with ⟨h0, _⟩ | ⟨_, rfl⟩
    · cases h0
    · obtain ⟨t1, t2, t3, t4⟩ := lost_tells hx hs hok.len hO hC rfl
      exact .inr ⟨rfl, _, ⟨L', s, hsl, hC.off, rfl, t3⟩, t1, t2, t4⟩
theorem crashes {w W : World} {b g nk ck : Nat} {bs : List Nat} {σ : St} {x : Int} {a : Option Addr} {zs : List Int} (h : Done w W b g bs x σ) (hx : x = ((64 * σ.n : Nat) : Int)) (hs : okS x) (hk : IntsP w a zs) (hl : zs.length = nk) (hnk : nk ≤ 17592186043904) :
    Calls Try.prog 11 #[.pointer (some ⟨b, 0, none⟩), .slice a nk ck] W fun e w' => (e = .returned (.int .i64 2) ∧ w' = W) ∨ (e = .returned (.int .i64 0) ∧ (∃ t, Asleep w w' b g bs t ∧ Tells x t ∧ t.n = σ.n ∧ t.bytes.drop 192 = σ.bytes.drop 192) ∧ Gr (DevT W) W w') := by
  obtain ⟨L, s, h1, h2, h3⟩ := h
  cases hn : nonneg zs with
  | false =>
    refine (pcrash_no ck nk h1.dev h3.off (h1.keep hk) hl hnk hn).mono ?_
    rintro e w' ⟨rfl, rfl⟩
    exact .inl ⟨rfl, rfl⟩
  | true =>
    have hm : SlM W a (zs.map Int.toNat) L.sb := by
      rcases hk.2 with h0 | ⟨g0, o0, e0, hlt0, _⟩
      · subst h0
        exact ⟨by simp, .inl rfl⟩
      · refine (h1.keep hk).m hn (fun ad e hlt hne => ?_)
        have hsb : w.heap.size ≤ L.sb := h1.new L.sb (.inr (.inl rfl))
        rw [e] at e0
        cases e0
        simp at hne
        omega
    have kk := pcrash_m ck h1.dev h2 h3.off hm (by rw [List.length_map, hl]; exact hnk)
    rw [List.length_map, hl] at kk
    refine kk.mono ?_
    rintro e w' ⟨rfl, L', s', hL, hd, hf, hg, _⟩
    obtain ⟨t1, t2, t3, t4⟩ := done_tells hx hs h2 h3 hL rfl
    have hsl := h1.gr hd hf (hg.mono (fun k hk => by rcases hk with rfl | rfl; exact .inl rfl; exact .inr (.inl rfl)))
    refine .inr ⟨rfl, ⟨_, ⟨L', s', hsl, hL.off, rfl, t4⟩, t1, t2, t3⟩, hg.mono (fun k hk => ?_)⟩
    rcases hk with rfl | rfl
    · exact ⟨_, _, h1.dev.dev, .inl rfl⟩
    · exact ⟨_, _, h1.dev.seen, .inr rfl⟩
theorem slice_192 (g N : Nat) (h : 193 ≤ N) (w : World) : (Instr.sliceAt 22 (.slice (some ⟨g, 0, none⟩) N N) (some (.int .i64 192)) none none).run Try.prog w = .ok (.slice (some ⟨g, 192, none⟩) (N - 192) (N - 192)) w := by
  have e := slice_bytes g 0 192 N N (by omega) (Nat.le_refl _) w
  rw [Nat.zero_add] at e
  exact e
theorem slice_to192 (g N : Nat) (h : 193 ≤ N) (hN : N ≤ 4194304) (w : World) : (Instr.sliceAt 22 (.slice (some ⟨g, 0, none⟩) N N) none (some (.int .i64 192)) none).run Try.prog w = .ok (.slice (some ⟨g, 0, none⟩) 192 N) w := slice_hi g 192 N N (by omega) (Nat.le_refl _) hN w
theorem own_part {W : World} {g : Nat} {bs : List Nat} (h : OwnB W g bs) (hb : ∀ x ∈ bs, x < 256) (k n : Nat) : Sl W (some ⟨g, k, none⟩) ((bs.drop k).take n) := by
  refine .inr ⟨g, k, rfl, h.lt, fun i y hy => ?_⟩
  rw [List.getElem?_take] at hy
  split at hy
  · rw [List.getElem?_drop] at hy
    exact ⟨h.cell (k + i) y hy, hb y (List.mem_of_getElem? hy)⟩
  · cases hy
/-- Two parts of the same place are compared. -/
theorem parts_eq {W : World} {g1 g2 N : Nat} {xs ys : List Nat} (h1 : OwnB W g1 xs) (h2 : OwnB W g2 ys) (hx : ∀ x ∈ xs, x < 256) (hy : ∀ x ∈ ys, x < 256) (hxl : xs.length = N) (hyl : ys.length = N) (hN : N ≤ 4194304) (k n c1 c2 : Nat) (hkn : k + n ≤ N) :
    Calls Try.prog 16 #[.slice (some ⟨g1, k, none⟩) n c1, .slice (some ⟨g2, k, none⟩) n c2] W fun e w' => e = .returned (.bool (decide ((xs.drop k).take n = (ys.drop k).take n))) ∧ Below W.heap.size W w' := by
  have e1 : ((xs.drop k).take n).length = n := by rw [List.length_take, List.length_drop]; omega
  have e2 : ((ys.drop k).take n).length = n := by rw [List.length_take, List.length_drop]; omega
  have ke := eqBytes_any (some ⟨g1, k, none⟩) (some ⟨g2, k, none⟩) c1 c2 _ _ W (own_part h1 hx k n) (own_part h2 hy k n) (by omega)
  rw [e1, e2] at ke
  refine ke.mono ?_
  rintro e w' ⟨rfl, nq, rfl⟩
  exact ⟨rfl, below_drewN (Below.refl _ _) nq⟩
end Go.Proofs.Ytmljacjbpcgijaa
namespace Go.Proofs.Ytmljacjbpcgijaa
open Go.RowKit Go.Shelf
set_option linter.unusedVariables false

set_option maxRecDepth 100000 in
set_option maxHeartbeats 1000000 in
theorem superLost_walk (w : World) (sz tu : Int) (fi : Nat) (ha : Option Addr) (hl hc : Nat) (rt : Bool) (hd : List Nat) (af : Int) (ka : Option Addr) (nk ck : Nat) (zs : List Int) (hs : Sl w ha hd) (hdl : hd.length = hl) (hll : hl ≤ 9223372036854775807) (hfi : fi < 256) (hsz : -9223372036854775808 ≤ sz ∧ sz ≤ 9223372036854775807) (htu : -9223372036854775808 ≤ tu ∧ tu ≤ 9223372036854775807)
    (hk : IntsP w ka zs) (hkl : zs.length = nk) (hnk : nk ≤ 17592186043904) (hck : nk ≤ ck) (hnil : ka = none → zs = [] ∧ ck = 0) :
    Calls Try.prog 3 #[.agg #[.int .i64 sz, .int .u8 (fi : Int), .slice ha hl hc, .bool rt, .int .i64 tu], .int .i64 af, .slice ka nk ck] w fun e w' => e = .returned (.bool true) ∧ Below w.heap.size w w' := by
  have hA : Below w.heap.size w (w.alloc (.cells #[.int .i64 sz, .int .u8 (fi : Int), .slice ha hl hc, .bool rt, .int .i64 tu] 24)) := (Below.refl _ w).alloc (Nat.le_refl _) _
  have KB := hide (imbytes_any (w.alloc (.cells #[.int .i64 sz, .int .u8 (fi : Int), .slice ha hl hc, .bool rt, .int .i64 tu] 24)) sz tu fi ha hl hc rt hd (hs.below hA) hdl hll hfi hsz htu)
  have HA := hide hA
  have KWK := hide (fun W => works_any W)
  have HK := hide hk
  have HKL := hide hkl
  have HNIL := hide hnil
  clear hA hs hdl hk hkl hnil
  go_enter Try.func3, Try.ntmps3
  go_upto_region 2 with (go_at_call 4; refine (KB.out).mono ?_; rintro e W1 ⟨N, bs, hbl, hbb, hN, hres, hB1⟩; have HBL := hide hbl; have HBB := hide hbb; have HB1 := hide (bseq HA.out hB1); clear hbl hbb hB1; rcases hres with ⟨rfl, hN0⟩ | ⟨g, rfl, hown, hgn⟩)
  · have hbs : bs = [] := List.eq_nil_of_length_eq_zero (by rw [HBL.out, hN0])
    have kc := copyBytes_any none 0 [] W1 (.inl rfl) (by simp)
    have hnf : ¬ fitS ((0 : Nat) : Int) := fun h => by have := h.1; omega
    have KC := hide kc
    have KF := hide (fun (a : Option Addr) (X : World) => pfrom_no a 0 0 X (by omega) hnf)
    clear kc hnf hbs
    go_wp2_with (first
      | (go_at_call 6; refine (KC.out).mono ?_; rintro e W2 ⟨rfl, ho2, hB2⟩; have HB2 := hide (bseq HB1.out hB2); clear ho2 hB2)
      | (go_at_call 5; refine (KF.out _ W2).mono ?_; rintro e w' ⟨rfl, hw⟩; obtain rfl := hw.symm)
      | (go_at_call 7; refine (KWK.out W2).mono ?_; rintro e W3 ⟨rfl, hB3⟩; have HB3 := hide (bseq HB2.out hB3); clear hB3))
    go_ret
    exact ⟨rfl, HB3.out⟩
  · have kc := copyBytes_any (some ⟨g, 0, none⟩) N bs W1 (hown.sl HBB.out) (by rw [HBL.out]; omega)
    rw [HBL.out] at kc
    have KC := hide kc
    have HOW := hide hown
    have HGN := hide hgn
    clear kc hown hgn
    by_cases hf : fitS (N : Int)
    · obtain ⟨f1, f2, f3⟩ := hf
      obtain ⟨m, hm⟩ : ∃ m, N = 64 * m := ⟨N / 64, by omega⟩
      have hm1 : 1 ≤ m := by omega
      have hm2 : m ≤ 65536 := by omega
      have HM := hide hm
      clear hm f1 f2 f3
      go_upto_region 5 with (first
        | (go_at_call 6; refine (KC.out).mono ?_; rintro e W2 ⟨rfl, ho2, hB2⟩; have KF := hide (pfrom_any W2 W1.heap.size 0 N N m bs (by have h5 := ho2; exact fun i x hx => ⟨by rw [Nat.zero_add]; exact h5.cell i x hx, HBB.out x (List.mem_of_getElem? hx)⟩) ho2.lt HBL.out HM.out hm1 hm2 HBB.out (Nat.le_refl _)); have HB2 := hide hB2; clear ho2 hB2)
        | (go_at_call 5; refine (KF.out).mono ?_; rintro e W3 ⟨b, L, rfl, hd3, hf3, hB3, hN3⟩; have HD3 := hide hd3; have HF3 := hide hf3; have HB3 := hide hB3; have HN3 := hide hN3; clear hd3 hf3 hB3 hN3))
      have hok := fromD_ok hm1 hm2 (HBL.out.trans HM.out) HBB.out
      have hsl : SL w W3 b L (fromD m bs) g bs := by
        have e1 := HB1.out.size
        have e2 := HB2.out.size
        have e3 := HOW.out.lt
        exact ⟨HD3.out, (HOW.out.below HB2.out e3).below HB3.out (Nat.lt_of_lt_of_le e3 e2), bseq (bseq HB1.out HB2.out) HB3.out, fun k hk => by have := HF3.out k hk; omega, fun hk => by have := HF3.out g hk; omega⟩
      have ah0 : Ahead w W3 b g m bs := ⟨L, _, hsl, rfl, rfl, fun _ => rfl, rfl, hok, rfl, rfl, HN3.out, ⟨.inl rfl, by show 0 < _; omega⟩⟩
      have KAR := hide (fun (h1 : 0 < af) => arm_any (af := af.toNat) hsl hok HN3.out (by omega) HK.out HKL.out hnk hck HNIL.out)
      have HSL := hide hsl
      have AH0 := hide ah0
      clear hsl ah0 hok HD3 HF3 HB2 HB3 KC KF HOW
      go_cut [44] from 30 (fun t wx => (t = .bool true ∧ Below w.heap.size w wx) ∨ (t = .bool false ∧ Ahead w wx b g m bs))
      case first =>
        by_cases h1 : 0 < af
        · by_cases h2 : af < 60
          · have kar := KAR.out h1
            have e : ((af.toNat : Nat) : Int) = af := by omega
            rw [e] at kar
            have KA := hide kar
            clear kar e KAR
            go_wp2_with (go_at_call 8; refine (KA.out).mono ?_; rintro e W4 hq; rcases hq with ⟨rfl, hq⟩ | ⟨rfl, hq⟩ <;> (have HQ := hide hq; clear hq))
            · go_meet
              case rel => exact .inl ⟨rfl, HQ.out⟩
            · go_meet
              case rel => exact .inr ⟨rfl, HQ.out⟩
          · clear KAR
            go_wp2_with (fail)
            go_meet
            case rel => exact .inr ⟨rfl, AH0.out⟩
        · clear KAR
          go_wp2_with (fail)
          go_meet
          case rel => exact .inr ⟨rfl, AH0.out⟩
      case rest =>
        rcases hcut with ⟨rfl, hB⟩ | ⟨rfl, hA⟩
        · have HB := hide hB
          clear hB
          go_wp2_with (go_at_call 7; refine (KWK.out wc).mono ?_; rintro e W9 ⟨rfl, hB9⟩; have HB9 := hide (bseq HB.out hB9); clear hB9)
          go_ret
          exact ⟨rfl, HB9.out⟩
        · obtain ⟨L5, σ, hsl, hn, hby, hpast, hoff, hok, hop, hcn, hLN, hfw⟩ := hA
          have hx : (N : Int) = ((64 * σ.n : Nat) : Int) := by rw [hn, ← HM.out]
          have HX := hide hx
          have HN := hide hn
          have HBY := hide hby
          by_cases hs : okS (N : Int)
          · have HS := hide hs
            have kf := formats hsl hok hpast hoff hop hcn hLN hfw hx hs
            have kp : ∀ W, Calls Try.prog 10 #[.int .i64 (N : Int)] W fun e w' => e = .returned (.tuple #[.agg #[.int .i64 (N : Int), .int .i64 128, .int .i64 32768, .int .i64 32896, .int .i64 (((N : Int) - 32896) / 256)], .int .i64 0]) ∧ Below W.heap.size W w' := fun W => plan_ok (N : Int) W hs
            have KCR := hide (fun W (h : Done w W b g bs (N : Int) σ) => crashes (nk := nk) (ck := ck) h hx hs HK.out HKL.out hnk)
            obtain ⟨q, hq⟩ : ∃ q, ((N : Int) - 32896) / 256 = q := ⟨_, rfl⟩
            rw [hq] at kf kp
            have HQ0 := hide hq
            have KF := hide kf
            have KP := hide kp
            clear kf kp hq hs hx hn hby hsl hok hpast hoff hop hcn hLN hfw HSL AH0 KAR
            go_upto_region 11 with (first
              | (go_at_call 9; refine (KF.out).mono ?_; rintro e W6 hq; rcases hq with ⟨rfl, hq⟩ | ⟨rfl, t, hq, hcu⟩)
              | (go_at_call 10; refine (KP.out _).mono ?_; rintro e W7 ⟨rfl, hB7⟩; have HB7 := hide hB7; clear hB7))
            · have a7 : Below W7.heap.size W7 (W7.alloc (.cells #[.int .i64 (N : Int), .int .i64 128, .int .i64 32768, .int .i64 32896, .int .i64 q] 37)) := (Below.refl _ W7).alloc (Nat.le_refl _) _
              have a6 : Below W6.heap.size W6 (W6.alloc (.cells #[.int .i64 (N : Int), .int .i64 128, .int .i64 32768, .int .i64 32896, .int .i64 q] 37)) := (Below.refl _ W6).alloc (Nat.le_refl _) _
              have r10 := row_keep (row_after HB7.out) a7
              have r11 := heap_alloc_new W7 (.cells #[.int .i64 (N : Int), .int .i64 128, .int .i64 32768, .int .i64 32896, .int .i64 q] 37)
              have hd8 := hq.below (bseq (bseq a6 HB7.out) a7)
              generalize W7.alloc (.cells #[.int .i64 (N : Int), .int .i64 128, .int .i64 32768, .int .i64 32896, .int .i64 q] 37) = W8 at *
              generalize W7.heap.size = p11 at *
              generalize W6.heap.size = p10 at *
              obtain ⟨c0, c1, c2, c3, c4⟩ := suBox r10
              obtain ⟨k0, k1, k2, k3, k4⟩ := suBox r11
              have hg := Try.noGuard37
              have he := fun W => eql_su (N : Int) 128 32768 32896 q (N : Int) 128 32768 32896 q W
              have hsS : sameS (N : Int) 128 32768 32896 q (N : Int) 128 32768 32896 q = true := by simp [sameS]
              rw [hsS] at he
              have KC8 := hide (KCR.out W8 hd8)
              have HB8 := hide (show Below w.heap.size w W8 by obtain ⟨_, _, h1, _⟩ := hd8; exact h1.bel)
              have HR8 := hide r11
              clear r10 r11 hd8 hq a7 a6 hsS
              go_upto_region 15 with (first
                | (go_at_call 11; refine (KC8.out).mono ?_; rintro e WA hr; rcases hr with ⟨rfl, hw⟩ | ⟨rfl, ⟨t, hsa, hT, hn2, hdr⟩, hGr⟩)
                | (go_at_call 7; refine (KWK.out _).mono ?_; rintro e W9 ⟨rfl, hB9⟩; obtain rfl := hw.symm; have HB9 := hide (bseq HB8.out hB9); clear hB9))
              · go_ret
                exact ⟨rfl, HB9.out⟩
              · have HT := hide hsa
                have R11 := hide (plan_kept hGr HR8.out)
                have HTL := hide hT
                have HTN := hide hn2
                have HDR := hide (show (t.bytes.drop 192).take (N - 192) = (σ.bytes.drop 192).take (N - 192) by rw [hdr])
                clear hsa hGr hT hn2 hdr c0 c1 c2 c3 c4 k0 k1 k2 k3 k4 hg he
                have KW := hide (wakes HT.out)
                go_upto_region 17 with (go_at_call 12; refine (KW.out).mono ?_; rintro e WB ⟨rfl, haw, hg9⟩; have HAW := hide haw; have R12 := hide (plan_kept hg9 R11.out); clear haw hg9)
                obtain ⟨LB, hslB, htok⟩ := HAW.out
                have hN64 : 64 * t.n = N := by have h5 := HX.out; have h6 := HTN.out; omega
                have hN3 : 36992 ≤ N := by have h5 := HS.out.1; omega
                have hN4 : N ≤ 4194304 := by have h5 := htok.max; omega
                have ki := pimg_any hslB.dev htok
                rw [hN64] at ki
                have KI := hide ki
                have kr := fun X (hX : Below WB.heap.size WB X) => read_all (hslB.below hX).dev htok
                have kt := fun X (hX : Below WB.heap.size WB X) => root_all (hslB.below hX).dev htok
                unfold suC at kr
                simp only [HTL.out.rd, HQ0.out] at kr kt
                have e0 : ((rtV t : Nat) : Int) = 0 := by rw [HTL.out.rt]; rfl
                simp only [e0] at kt
                clear e0
                have KR := hide kr
                have KT := hide kt
                clear kr kt ki KW
                go_upto_region 20 with (first | (go_at_call 13; refine (KI.out).mono ?_; rintro e WC ⟨rfl, hoc, hbc⟩; have HOC := hide hoc; have HBC := hide hbc; clear hoc hbc) | (go_at_call 14; refine (KR.out _ HBC.out).mono ?_; rintro e V1 ⟨rfl, hb⟩; have HV1 := hide hb; have HK1 := hide (bseq HBC.out (hb.alloc (o := .cells #[.int .i64 (N : Int), .int .i64 128, .int .i64 32768, .int .i64 32896, .int .i64 q] 37) hb.size)); clear hb) | (go_at_call 15; refine (KT.out _ HK1.out).mono ?_; rintro e V2 ⟨rfl, hb⟩; have HV2 := hide hb; clear hb))
                have hbd := bseq HK1.out HV2.out
                have r14 := row_keep (heap_alloc_new V1 (.cells #[.int .i64 (N : Int), .int .i64 128, .int .i64 32768, .int .i64 32896, .int .i64 q] 37)) HV2.out
                have r11 := row_keep R12.out hbd
                have ad1 : Below WC.heap.size WC V2 := bseq (HV1.out.alloc (o := .cells #[.int .i64 (N : Int), .int .i64 128, .int .i64 32768, .int .i64 32896, .int .i64 q] 37) HV1.out.size) HV2.out
                have o1 : OwnB V2 WB.heap.size t.bytes := HOC.out.below ad1 HOC.out.lt
                have hslD := hslB.below hbd
                have o2 := hslD.own
                have tl : t.bytes.length = N := htok.len.trans hN64
                have ke : ∀ X, Below V2.heap.size V2 X → Calls Try.prog 16 #[.slice (some ⟨WB.heap.size, 192, none⟩) (N - 192) (N - 192), .slice (some ⟨g, 192, none⟩) (N - 192) (N - 192)] X fun e w' => e = .returned (.bool true) ∧ Below X.heap.size X w' := fun X hX => by
                  have k := parts_eq (o1.below hX o1.lt) (o2.below hX o2.lt) htok.byte HBB.out tl HBL.out hN4 192 (N - 192) (N - 192) (N - 192) (by omega)
                  rw [HDR.out, HBY.out, decide_eq_true rfl] at k
                  exact k
                have KE := hide (ke V2.drew (Below.refl _ _).drew)
                clear ke
                have HR14 := hide r14
                have HR11 := hide r11
                have O1 := hide o1
                have O2 := hide o2
                have HSD := hide hslD
                have HTK := hide htok
                have TL := hide tl
                have HV1s := hide HV1.out.size
                clear r14 r11 o1 o2 hslD tl ad1 hbd hslB htok
                generalize V1.heap.size = p14 at *
                refine wp_region_held_drew (S := fun _ => True) (by kernel_rfl) trivial (fun hS => ?_)
                refine wpAnyH_take (i := 0) (v := (.slice (some ⟨WB.heap.size, 0, none⟩) N N)) rfl (by kernel_rfl) (by kernel_rfl) (by kernel_rfl) (fun _ _ _ h => h) (Or.inl ⟨by kernel_rfl, fun w' hw => by (go_simp)⟩) hS ?_
                refine wpAnyH_take (i := 1) (v := (.int .i64 (N : Int))) rfl (by kernel_rfl) (by kernel_rfl) (by kernel_rfl) (fun _ _ _ h => h) (Or.inl ⟨by kernel_rfl, fun w' hw => by (go_simp)⟩) hS ?_
                refine wpAnyH_take (i := 2) (v := (.slice (some ⟨g, 0, none⟩) N N)) rfl (by kernel_rfl) (by kernel_rfl) (by kernel_rfl) (fun _ _ _ h => h) (Or.inl ⟨by kernel_rfl, fun w' hw => by (go_simp)⟩) hS ?_
                refine wpAnyH_take (i := 3) (v := (.int .i64 (N : Int))) rfl (by kernel_rfl) (by kernel_rfl) (by kernel_rfl) (fun _ _ _ h => h) (Or.inl ⟨by kernel_rfl, fun w' hw => by (go_simp)⟩) hS ?_
                refine wpAnyH_take (i := 4) (v := (.bool false)) rfl (by kernel_rfl) (by kernel_rfl) (by kernel_rfl) (fun _ _ _ h => h) (Or.inl ⟨by kernel_rfl, fun w' hw => by (go_simp)⟩) hS ?_
                refine wpAnyH_take (i := 5) (v := (.bool false)) rfl (by kernel_rfl) (by kernel_rfl) (by kernel_rfl) (fun _ _ _ h => h) (Or.inl ⟨by kernel_rfl, fun w' hw => by (go_simp)⟩) hS ?_
                refine wpAnyH_take (i := 6) (v := (.slice (some ⟨WB.heap.size, 0, none⟩) N N)) rfl (by kernel_rfl) (by kernel_rfl) (by kernel_rfl) (fun _ _ _ h => h) (Or.inl ⟨by kernel_rfl, fun w' hw => by (go_simp)⟩) hS ?_
                refine wpAnyH_take (i := 7) (v := (.slice (some ⟨WB.heap.size, 192, none⟩) (N - 192) (N - 192))) rfl (by kernel_rfl) (by kernel_rfl) (by kernel_rfl) (fun _ _ _ h => h) (Or.inl ⟨by kernel_rfl, fun w' hw => by (have e := slice_192 WB.heap.size N (by omega) w'; go_simp)⟩) hS ?_
                refine wpAnyH_take (i := 8) (v := (.slice (some ⟨g, 0, none⟩) N N)) rfl (by kernel_rfl) (by kernel_rfl) (by kernel_rfl) (fun _ _ _ h => h) (Or.inl ⟨by kernel_rfl, fun w' hw => by (go_simp)⟩) hS ?_
                refine wpAnyH_take (i := 9) (v := (.slice (some ⟨g, 192, none⟩) (N - 192) (N - 192))) rfl (by kernel_rfl) (by kernel_rfl) (by kernel_rfl) (fun _ _ _ h => h) (Or.inl ⟨by kernel_rfl, fun w' hw => by (have e := slice_192 g N (by omega) w'; go_simp)⟩) hS ?_
                refine wpAnyH_ready (rs := [10]) (by kernel_rfl) (by simp) ?_
                refine AllReadyH.cons rfl (fun K hK => ?_) AllReadyH.nil
                rw [if_pos (by kernel_rfl)]
                go_simp
                go_wp2_with (go_at_call 16; refine (KE.out).mono ?_; rintro e WE ⟨rfl, hbe⟩; have HBE := hide (bseq (Below.refl _ _).drew hbe); clear hbe)
                refine hK.out _ _ trivial (fun hS2 => ?_)
                refine wpAnyH_take (i := 11) (v := (.bool false)) rfl (by kernel_rfl) (by kernel_rfl) (by kernel_rfl) (fun _ _ _ h => h) (Or.inl ⟨by kernel_rfl, fun w' hw => by (go_simp)⟩) hS2 ?_
                refine wpAnyH_take (i := 12) (v := (.bool false)) rfl (by kernel_rfl) (by kernel_rfl) (by kernel_rfl) (fun _ _ _ h => h) (Or.inl ⟨by kernel_rfl, fun w' hw => by (go_simp)⟩) hS2 ?_
                refine wpAnyH_done (by kernel_rfl) ?_ _
                simp only [Act.put, List.getElem_toArray, List.getElem_cons_zero, List.getElem_cons_succ, List.setIfInBounds_toArray, List.set_cons_zero, List.set_cons_succ]
                clear hS hS2 hK
                have kz : ∀ X, Below V2.heap.size V2 X → Calls Try.prog 17 #[.slice (some ⟨WB.heap.size, 64, none⟩) 128 (N - 64)] X fun e w' => e = .returned (.bool true) ∧ w' = X := fun X hX => zero_any 128 (N - 64) ((t.bytes.drop 64).take 128) (by rw [List.length_take, List.length_drop, TL.out]; omega) (by omega) (fun i y hy => by
                    rw [List.getElem?_take] at hy
                    split at hy
                    · rw [List.getElem?_drop] at hy
                      exact ⟨(O1.out.below hX O1.out.lt).cell (64 + i) y hy, HTK.out.byte y (List.mem_of_getElem? hy)⟩
                    · cases hy) HTL.out.heads
                have sh := fun X => slice_heads WB.heap.size N (by omega) hN4 X
                have KZ := hide (kz WE HBE.out)
                clear kz
                obtain ⟨c0, c1, c2, c3, c4⟩ := suBox (row_keep HR14.out HBE.out)
                obtain ⟨k0, k1, k2, k3, k4⟩ := suBox (row_keep HR11.out HBE.out)
                have hg := Try.noGuard37
                have he := fun W => eql_su (N : Int) 128 32768 32896 q (N : Int) 128 32768 32896 q W
                have hsS : sameS (N : Int) 128 32768 32896 q (N : Int) 128 32768 32896 q = true := by simp [sameS]
                rw [hsS] at he
                clear hsS
                go_wp2_with (first | (go_at_call 17; refine (KZ.out).mono ?_; rintro e w' ⟨rfl, hw⟩; obtain rfl := hw.symm) | (go_at_call 7; refine (KWK.out _).mono ?_; rintro e W9 ⟨rfl, hB9⟩; have HB9 := hide (bseq HSD.out.bel (bseq HBE.out hB9)); clear hB9))
                go_ret
                exact ⟨rfl, HB9.out⟩
            · have a7 : Below W7.heap.size W7 (W7.alloc (.cells #[.int .i64 (N : Int), .int .i64 128, .int .i64 32768, .int .i64 32896, .int .i64 q] 37)) := (Below.refl _ W7).alloc (Nat.le_refl _) _
              have a6 : Below W6.heap.size W6 (W6.alloc (.cells #[.int .i64 0, .int .i64 0, .int .i64 0, .int .i64 0, .int .i64 0] 37)) := (Below.refl _ W6).alloc (Nat.le_refl _) _
              have r11 := heap_alloc_new W7 (.cells #[.int .i64 (N : Int), .int .i64 128, .int .i64 32768, .int .i64 32896, .int .i64 q] 37)
              have hd8 := hq.below (bseq (bseq a6 HB7.out) a7)
              generalize W7.alloc (.cells #[.int .i64 (N : Int), .int .i64 128, .int .i64 32768, .int .i64 32896, .int .i64 q] 37) = W8 at *
              generalize W7.heap.size = p11 at *
              generalize W6.heap.size = p10 at *
              have HT := hide hd8
              have R11 := hide r11
              obtain ⟨hn2, hdr, hway⟩ := hcu
              have HTN := hide hn2
              have HDR := hide (show (t.bytes.drop 192).take (N - 192) = (σ.bytes.drop 192).take (N - 192) by rw [hdr])
              have HWY := hide hway
              clear r11 hd8 hq a7 a6 hn2 hdr hway
              go_upto_region 15 with (fail)
              rcases HWY.out with hta | ⟨hta, hte | hT⟩
              · have HTA := hide hta
                clear hta HWY
                have KW := hide (wakes HT.out)
                go_upto_region 17 with (go_at_call 12; refine (KW.out).mono ?_; rintro e WB ⟨rfl, haw, hg9⟩; have HAW := hide haw; have R12 := hide (plan_kept hg9 R11.out); clear haw hg9)
                obtain ⟨LB, hslB, htok⟩ := HAW.out
                have hN64 : 64 * t.n = N := by have h5 := HX.out; have h6 := HTN.out; omega
                have hN3 : 36992 ≤ N := by have h5 := HS.out.1; omega
                have hN4 : N ≤ 4194304 := by have h5 := htok.max; omega
                have ki := pimg_any hslB.dev htok
                rw [hN64] at ki
                have KI := hide ki
                have kr := fun X (hX : Below WB.heap.size WB X) => read_all (hslB.below hX).dev htok
                have kt := fun X (hX : Below WB.heap.size WB X) => root_all (hslB.below hX).dev htok
                unfold suC at kr
                generalize (rd t).a = a0 at *
                generalize (rd t).b = a1 at *
                generalize (rd t).c = a2 at *
                generalize (rd t).d = a3 at *
                generalize (rd t).e = a4 at *
                generalize (rd t).err = er at *
                generalize rtV t = rv at *
                have KR := hide kr
                have KT := hide kt
                clear kr kt ki KW
                go_upto_region 20 with (first | (go_at_call 13; refine (KI.out).mono ?_; rintro e WC ⟨rfl, hoc, hbc⟩; have HOC := hide hoc; have HBC := hide hbc; clear hoc hbc) | (go_at_call 14; refine (KR.out _ HBC.out).mono ?_; rintro e V1 ⟨rfl, hb⟩; have HV1 := hide hb; have HK1 := hide (bseq HBC.out (hb.alloc (o := .cells #[.int .i64 a0, .int .i64 a1, .int .i64 a2, .int .i64 a3, .int .i64 a4] 37) hb.size)); clear hb) | (go_at_call 15; refine (KT.out _ HK1.out).mono ?_; rintro e V2 ⟨rfl, hb⟩; have HV2 := hide hb; clear hb))
                have hbd := bseq HK1.out HV2.out
                have r14 := row_keep (heap_alloc_new V1 (.cells #[.int .i64 a0, .int .i64 a1, .int .i64 a2, .int .i64 a3, .int .i64 a4] 37)) HV2.out
                have r11 := row_keep R12.out hbd
                have ad1 : Below WC.heap.size WC V2 := bseq (HV1.out.alloc (o := .cells #[.int .i64 a0, .int .i64 a1, .int .i64 a2, .int .i64 a3, .int .i64 a4] 37) HV1.out.size) HV2.out
                have o1 : OwnB V2 WB.heap.size t.bytes := HOC.out.below ad1 HOC.out.lt
                have hslD := hslB.below hbd
                have o2 := hslD.own
                have tl : t.bytes.length = N := htok.len.trans hN64
                have ke : ∀ X, Below V2.heap.size V2 X → Calls Try.prog 16 #[.slice (some ⟨WB.heap.size, 192, none⟩) (N - 192) (N - 192), .slice (some ⟨g, 192, none⟩) (N - 192) (N - 192)] X fun e w' => e = .returned (.bool true) ∧ Below X.heap.size X w' := fun X hX => by
                  have k := parts_eq (o1.below hX o1.lt) (o2.below hX o2.lt) htok.byte HBB.out tl HBL.out hN4 192 (N - 192) (N - 192) (N - 192) (by omega)
                  rw [HDR.out, HBY.out, decide_eq_true rfl] at k
                  exact k
                have KE := hide (ke V2.drew (Below.refl _ _).drew)
                clear ke
                have HR14 := hide r14
                have HR11 := hide r11
                have O1 := hide o1
                have O2 := hide o2
                have HSD := hide hslD
                have HTK := hide htok
                have TL := hide tl
                have HV1s := hide HV1.out.size
                clear r14 r11 o1 o2 hslD tl ad1 hbd hslB htok
                generalize V1.heap.size = p14 at *
                refine wp_region_held_drew (S := fun _ => True) (by kernel_rfl) trivial (fun hS => ?_)
                refine wpAnyH_take (i := 0) (v := (.slice (some ⟨WB.heap.size, 0, none⟩) N N)) rfl (by kernel_rfl) (by kernel_rfl) (by kernel_rfl) (fun _ _ _ h => h) (Or.inl ⟨by kernel_rfl, fun w' hw => by (go_simp)⟩) hS ?_
                refine wpAnyH_take (i := 1) (v := (.int .i64 (N : Int))) rfl (by kernel_rfl) (by kernel_rfl) (by kernel_rfl) (fun _ _ _ h => h) (Or.inl ⟨by kernel_rfl, fun w' hw => by (go_simp)⟩) hS ?_
                refine wpAnyH_take (i := 2) (v := (.slice (some ⟨g, 0, none⟩) N N)) rfl (by kernel_rfl) (by kernel_rfl) (by kernel_rfl) (fun _ _ _ h => h) (Or.inl ⟨by kernel_rfl, fun w' hw => by (go_simp)⟩) hS ?_
                refine wpAnyH_take (i := 3) (v := (.int .i64 (N : Int))) rfl (by kernel_rfl) (by kernel_rfl) (by kernel_rfl) (fun _ _ _ h => h) (Or.inl ⟨by kernel_rfl, fun w' hw => by (go_simp)⟩) hS ?_
                refine wpAnyH_take (i := 4) (v := (.bool false)) rfl (by kernel_rfl) (by kernel_rfl) (by kernel_rfl) (fun _ _ _ h => h) (Or.inl ⟨by kernel_rfl, fun w' hw => by (go_simp)⟩) hS ?_
                refine wpAnyH_take (i := 5) (v := (.bool false)) rfl (by kernel_rfl) (by kernel_rfl) (by kernel_rfl) (fun _ _ _ h => h) (Or.inl ⟨by kernel_rfl, fun w' hw => by (go_simp)⟩) hS ?_
                refine wpAnyH_take (i := 6) (v := (.slice (some ⟨WB.heap.size, 0, none⟩) N N)) rfl (by kernel_rfl) (by kernel_rfl) (by kernel_rfl) (fun _ _ _ h => h) (Or.inl ⟨by kernel_rfl, fun w' hw => by (go_simp)⟩) hS ?_
                refine wpAnyH_take (i := 7) (v := (.slice (some ⟨WB.heap.size, 192, none⟩) (N - 192) (N - 192))) rfl (by kernel_rfl) (by kernel_rfl) (by kernel_rfl) (fun _ _ _ h => h) (Or.inl ⟨by kernel_rfl, fun w' hw => by (have e := slice_192 WB.heap.size N (by omega) w'; go_simp)⟩) hS ?_
                refine wpAnyH_take (i := 8) (v := (.slice (some ⟨g, 0, none⟩) N N)) rfl (by kernel_rfl) (by kernel_rfl) (by kernel_rfl) (fun _ _ _ h => h) (Or.inl ⟨by kernel_rfl, fun w' hw => by (go_simp)⟩) hS ?_
                refine wpAnyH_take (i := 9) (v := (.slice (some ⟨g, 192, none⟩) (N - 192) (N - 192))) rfl (by kernel_rfl) (by kernel_rfl) (by kernel_rfl) (fun _ _ _ h => h) (Or.inl ⟨by kernel_rfl, fun w' hw => by (have e := slice_192 g N (by omega) w'; go_simp)⟩) hS ?_
                refine wpAnyH_ready (rs := [10]) (by kernel_rfl) (by simp) ?_
                refine AllReadyH.cons rfl (fun K hK => ?_) AllReadyH.nil
                rw [if_pos (by kernel_rfl)]
                go_simp
                go_wp2_with (go_at_call 16; refine (KE.out).mono ?_; rintro e WE ⟨rfl, hbe⟩; have HBE := hide (bseq (Below.refl _ _).drew hbe); clear hbe)
                refine hK.out _ _ trivial (fun hS2 => ?_)
                refine wpAnyH_take (i := 11) (v := (.bool false)) rfl (by kernel_rfl) (by kernel_rfl) (by kernel_rfl) (fun _ _ _ h => h) (Or.inl ⟨by kernel_rfl, fun w' hw => by (go_simp)⟩) hS2 ?_
                refine wpAnyH_take (i := 12) (v := (.bool false)) rfl (by kernel_rfl) (by kernel_rfl) (by kernel_rfl) (fun _ _ _ h => h) (Or.inl ⟨by kernel_rfl, fun w' hw => by (go_simp)⟩) hS2 ?_
                refine wpAnyH_done (by kernel_rfl) ?_ _
                simp only [Act.put, List.getElem_toArray, List.getElem_cons_zero, List.getElem_cons_succ, List.setIfInBounds_toArray, List.set_cons_zero, List.set_cons_succ]
                clear hS hS2 hK
                have ke : Calls Try.prog 16 #[.slice (some ⟨WB.heap.size, 0, none⟩) 192 N, .slice (some ⟨g, 0, none⟩) 192 N] WE.drew fun e w' => e = .returned (.bool true) ∧ Below WE.drew.heap.size WE.drew w' := by
                  have hX := HBE.out.drew
                  have k := parts_eq (O1.out.below hX O1.out.lt) (O2.out.below hX O2.out.lt) HTK.out.byte HBB.out TL.out HBL.out hN4 0 192 N N (by omega)
                  rw [List.drop_zero, List.drop_zero, decide_eq_true (HTA.out.trans (by rw [HBY.out]))] at k
                  exact k
                have KE2 := hide ke
                clear ke
                go_upto_region 24 with (fail)
                refine wp_region_held_drew (S := fun _ => True) (by kernel_rfl) trivial (fun hS => ?_)
                refine wpAnyH_take (i := 0) (v := (.slice (some ⟨WB.heap.size, 0, none⟩) N N)) rfl (by kernel_rfl) (by kernel_rfl) (by kernel_rfl) (fun _ _ _ h => h) (Or.inl ⟨by kernel_rfl, fun w' hw => by (go_simp)⟩) hS ?_
                refine wpAnyH_take (i := 1) (v := (.slice (some ⟨WB.heap.size, 0, none⟩) 192 N)) rfl (by kernel_rfl) (by kernel_rfl) (by kernel_rfl) (fun _ _ _ h => h) (Or.inl ⟨by kernel_rfl, fun w' hw => by (have e := slice_to192 WB.heap.size N (by omega) (by omega) w'; go_simp)⟩) hS ?_
                refine wpAnyH_take (i := 2) (v := (.slice (some ⟨g, 0, none⟩) N N)) rfl (by kernel_rfl) (by kernel_rfl) (by kernel_rfl) (fun _ _ _ h => h) (Or.inl ⟨by kernel_rfl, fun w' hw => by (go_simp)⟩) hS ?_
                refine wpAnyH_take (i := 3) (v := (.slice (some ⟨g, 0, none⟩) 192 N)) rfl (by kernel_rfl) (by kernel_rfl) (by kernel_rfl) (fun _ _ _ h => h) (Or.inl ⟨by kernel_rfl, fun w' hw => by (have e := slice_to192 g N (by omega) (by omega) w'; go_simp)⟩) hS ?_
                refine wpAnyH_ready (rs := [4]) (by kernel_rfl) (by simp) ?_
                refine AllReadyH.cons rfl (fun K hK => ?_) AllReadyH.nil
                rw [if_pos (by kernel_rfl)]
                go_simp
                go_wp2_with (go_at_call 16; refine (KE2.out).mono ?_; rintro e WF ⟨rfl, hbf⟩; have HBF := hide (bseq HBE.out.drew hbf); clear hbf)
                refine hK.out _ _ trivial (fun hS2 => ?_)
                refine wpAnyH_take (i := 5) (v := (.bool true)) rfl (by kernel_rfl) (by kernel_rfl) (by kernel_rfl) (fun _ _ _ h => h) (Or.inl ⟨by kernel_rfl, fun w' hw => by (go_simp)⟩) hS2 ?_
                refine wpAnyH_done (by kernel_rfl) ?_ _
                simp only [Act.put, List.getElem_toArray, List.getElem_cons_zero, List.getElem_cons_succ, List.setIfInBounds_toArray, List.set_cons_zero, List.set_cons_succ]
                clear hS hS2 hK
                go_wp2_with (first | (go_at_call 17; refine (KZ.out).mono ?_; rintro e w' ⟨rfl, hw⟩; obtain rfl := hw.symm) | (go_at_call 7; refine (KWK.out _).mono ?_; rintro e W9 ⟨rfl, hB9⟩; have HB9 := hide (bseq HSD.out.bel (bseq HBF.out hB9)); clear hB9))
                go_ret
                exact ⟨rfl, HB9.out⟩
              · have HTA := hide hta
                have HTE := hide hte
                clear hta hte HWY
                have KW := hide (wakes HT.out)
                go_upto_region 17 with (go_at_call 12; refine (KW.out).mono ?_; rintro e WB ⟨rfl, haw, hg9⟩; have HAW := hide haw; have R12 := hide (plan_kept hg9 R11.out); clear haw hg9)
                obtain ⟨LB, hslB, htok⟩ := HAW.out
                have hN64 : 64 * t.n = N := by have h5 := HX.out; have h6 := HTN.out; omega
                have hN3 : 36992 ≤ N := by have h5 := HS.out.1; omega
                have hN4 : N ≤ 4194304 := by have h5 := htok.max; omega
                have ki := pimg_any hslB.dev htok
                rw [hN64] at ki
                have KI := hide ki
                have kr := fun X (hX : Below WB.heap.size WB X) => read_all (hslB.below hX).dev htok
                have kt := fun X (hX : Below WB.heap.size WB X) => root_all (hslB.below hX).dev htok
                unfold suC at kr
                rw [HTE.out] at kt
                simp only [HTE.out] at kr
                generalize (rd t).a = a0 at *
                generalize (rd t).b = a1 at *
                generalize (rd t).c = a2 at *
                generalize (rd t).d = a3 at *
                generalize (rd t).e = a4 at *
                generalize rtV t = rv at *
                have KR := hide kr
                have KT := hide kt
                clear kr kt ki KW
                go_upto_region 20 with (first | (go_at_call 13; refine (KI.out).mono ?_; rintro e WC ⟨rfl, hoc, hbc⟩; have HOC := hide hoc; have HBC := hide hbc; clear hoc hbc) | (go_at_call 14; refine (KR.out _ HBC.out).mono ?_; rintro e V1 ⟨rfl, hb⟩; have HV1 := hide hb; have HK1 := hide (bseq HBC.out (hb.alloc (o := .cells #[.int .i64 a0, .int .i64 a1, .int .i64 a2, .int .i64 a3, .int .i64 a4] 37) hb.size)); clear hb) | (go_at_call 15; refine (KT.out _ HK1.out).mono ?_; rintro e V2 ⟨rfl, hb⟩; have HV2 := hide hb; clear hb))
                have hbd := bseq HK1.out HV2.out
                have r14 := row_keep (heap_alloc_new V1 (.cells #[.int .i64 a0, .int .i64 a1, .int .i64 a2, .int .i64 a3, .int .i64 a4] 37)) HV2.out
                have r11 := row_keep R12.out hbd
                have ad1 : Below WC.heap.size WC V2 := bseq (HV1.out.alloc (o := .cells #[.int .i64 a0, .int .i64 a1, .int .i64 a2, .int .i64 a3, .int .i64 a4] 37) HV1.out.size) HV2.out
                have o1 : OwnB V2 WB.heap.size t.bytes := HOC.out.below ad1 HOC.out.lt
                have hslD := hslB.below hbd
                have o2 := hslD.own
                have tl : t.bytes.length = N := htok.len.trans hN64
                have ke : ∀ X, Below V2.heap.size V2 X → Calls Try.prog 16 #[.slice (some ⟨WB.heap.size, 192, none⟩) (N - 192) (N - 192), .slice (some ⟨g, 192, none⟩) (N - 192) (N - 192)] X fun e w' => e = .returned (.bool true) ∧ Below X.heap.size X w' := fun X hX => by
                  have k := parts_eq (o1.below hX o1.lt) (o2.below hX o2.lt) htok.byte HBB.out tl HBL.out hN4 192 (N - 192) (N - 192) (N - 192) (by omega)
                  rw [HDR.out, HBY.out, decide_eq_true rfl] at k
                  exact k
                have KE := hide (ke V2.drew (Below.refl _ _).drew)
                clear ke
                have HR14 := hide r14
                have HR11 := hide r11
                have O1 := hide o1
                have O2 := hide o2
                have HSD := hide hslD
                have HTK := hide htok
                have TL := hide tl
                have HV1s := hide HV1.out.size
                clear r14 r11 o1 o2 hslD tl ad1 hbd hslB htok
                generalize V1.heap.size = p14 at *
                refine wp_region_held_drew (S := fun _ => True) (by kernel_rfl) trivial (fun hS => ?_)
                refine wpAnyH_take (i := 0) (v := (.slice (some ⟨WB.heap.size, 0, none⟩) N N)) rfl (by kernel_rfl) (by kernel_rfl) (by kernel_rfl) (fun _ _ _ h => h) (Or.inl ⟨by kernel_rfl, fun w' hw => by (go_simp)⟩) hS ?_
                refine wpAnyH_take (i := 1) (v := (.int .i64 (N : Int))) rfl (by kernel_rfl) (by kernel_rfl) (by kernel_rfl) (fun _ _ _ h => h) (Or.inl ⟨by kernel_rfl, fun w' hw => by (go_simp)⟩) hS ?_
                refine wpAnyH_take (i := 2) (v := (.slice (some ⟨g, 0, none⟩) N N)) rfl (by kernel_rfl) (by kernel_rfl) (by kernel_rfl) (fun _ _ _ h => h) (Or.inl ⟨by kernel_rfl, fun w' hw => by (go_simp)⟩) hS ?_
                refine wpAnyH_take (i := 3) (v := (.int .i64 (N : Int))) rfl (by kernel_rfl) (by kernel_rfl) (by kernel_rfl) (fun _ _ _ h => h) (Or.inl ⟨by kernel_rfl, fun w' hw => by (go_simp)⟩) hS ?_
                refine wpAnyH_take (i := 4) (v := (.bool false)) rfl (by kernel_rfl) (by kernel_rfl) (by kernel_rfl) (fun _ _ _ h => h) (Or.inl ⟨by kernel_rfl, fun w' hw => by (go_simp)⟩) hS ?_
                refine wpAnyH_take (i := 5) (v := (.bool false)) rfl (by kernel_rfl) (by kernel_rfl) (by kernel_rfl) (fun _ _ _ h => h) (Or.inl ⟨by kernel_rfl, fun w' hw => by (go_simp)⟩) hS ?_
                refine wpAnyH_take (i := 6) (v := (.slice (some ⟨WB.heap.size, 0, none⟩) N N)) rfl (by kernel_rfl) (by kernel_rfl) (by kernel_rfl) (fun _ _ _ h => h) (Or.inl ⟨by kernel_rfl, fun w' hw => by (go_simp)⟩) hS ?_
                refine wpAnyH_take (i := 7) (v := (.slice (some ⟨WB.heap.size, 192, none⟩) (N - 192) (N - 192))) rfl (by kernel_rfl) (by kernel_rfl) (by kernel_rfl) (fun _ _ _ h => h) (Or.inl ⟨by kernel_rfl, fun w' hw => by (have e := slice_192 WB.heap.size N (by omega) w'; go_simp)⟩) hS ?_
                refine wpAnyH_take (i := 8) (v := (.slice (some ⟨g, 0, none⟩) N N)) rfl (by kernel_rfl) (by kernel_rfl) (by kernel_rfl) (fun _ _ _ h => h) (Or.inl ⟨by kernel_rfl, fun w' hw => by (go_simp)⟩) hS ?_
                refine wpAnyH_take (i := 9) (v := (.slice (some ⟨g, 192, none⟩) (N - 192) (N - 192))) rfl (by kernel_rfl) (by kernel_rfl) (by kernel_rfl) (fun _ _ _ h => h) (Or.inl ⟨by kernel_rfl, fun w' hw => by (have e := slice_192 g N (by omega) w'; go_simp)⟩) hS ?_
                refine wpAnyH_ready (rs := [10]) (by kernel_rfl) (by simp) ?_
                refine AllReadyH.cons rfl (fun K hK => ?_) AllReadyH.nil
                rw [if_pos (by kernel_rfl)]
                go_simp
                go_wp2_with (go_at_call 16; refine (KE.out).mono ?_; rintro e WE ⟨rfl, hbe⟩; have HBE := hide (bseq (Below.refl _ _).drew hbe); clear hbe)
                refine hK.out _ _ trivial (fun hS2 => ?_)
                refine wpAnyH_take (i := 11) (v := (.bool false)) rfl (by kernel_rfl) (by kernel_rfl) (by kernel_rfl) (fun _ _ _ h => h) (Or.inl ⟨by kernel_rfl, fun w' hw => by (go_simp)⟩) hS2 ?_
                refine wpAnyH_take (i := 12) (v := (.bool false)) rfl (by kernel_rfl) (by kernel_rfl) (by kernel_rfl) (fun _ _ _ h => h) (Or.inl ⟨by kernel_rfl, fun w' hw => by (go_simp)⟩) hS2 ?_
                refine wpAnyH_done (by kernel_rfl) ?_ _
                simp only [Act.put, List.getElem_toArray, List.getElem_cons_zero, List.getElem_cons_succ, List.setIfInBounds_toArray, List.set_cons_zero, List.set_cons_succ]
                clear hS hS2 hK
                have ke : Calls Try.prog 16 #[.slice (some ⟨WB.heap.size, 0, none⟩) 192 N, .slice (some ⟨g, 0, none⟩) 192 N] WE.drew fun e w' => e = .returned (.bool false) ∧ Below WE.drew.heap.size WE.drew w' := by
                  have hX := HBE.out.drew
                  have k := parts_eq (O1.out.below hX O1.out.lt) (O2.out.below hX O2.out.lt) HTK.out.byte HBB.out TL.out HBL.out hN4 0 192 N N (by omega)
                  rw [List.drop_zero, List.drop_zero, decide_eq_false (fun h => HTA.out (h.trans (by rw [HBY.out])))] at k
                  exact k
                have KE2 := hide ke
                clear ke
                go_upto_region 24 with (fail)
                refine wp_region_held_drew (S := fun _ => True) (by kernel_rfl) trivial (fun hS => ?_)
                refine wpAnyH_take (i := 0) (v := (.slice (some ⟨WB.heap.size, 0, none⟩) N N)) rfl (by kernel_rfl) (by kernel_rfl) (by kernel_rfl) (fun _ _ _ h => h) (Or.inl ⟨by kernel_rfl, fun w' hw => by (go_simp)⟩) hS ?_
                refine wpAnyH_take (i := 1) (v := (.slice (some ⟨WB.heap.size, 0, none⟩) 192 N)) rfl (by kernel_rfl) (by kernel_rfl) (by kernel_rfl) (fun _ _ _ h => h) (Or.inl ⟨by kernel_rfl, fun w' hw => by (have e := slice_to192 WB.heap.size N (by omega) (by omega) w'; go_simp)⟩) hS ?_
                refine wpAnyH_take (i := 2) (v := (.slice (some ⟨g, 0, none⟩) N N)) rfl (by kernel_rfl) (by kernel_rfl) (by kernel_rfl) (fun _ _ _ h => h) (Or.inl ⟨by kernel_rfl, fun w' hw => by (go_simp)⟩) hS ?_
                refine wpAnyH_take (i := 3) (v := (.slice (some ⟨g, 0, none⟩) 192 N)) rfl (by kernel_rfl) (by kernel_rfl) (by kernel_rfl) (fun _ _ _ h => h) (Or.inl ⟨by kernel_rfl, fun w' hw => by (have e := slice_to192 g N (by omega) (by omega) w'; go_simp)⟩) hS ?_
                refine wpAnyH_ready (rs := [4]) (by kernel_rfl) (by simp) ?_
                refine AllReadyH.cons rfl (fun K hK => ?_) AllReadyH.nil
                rw [if_pos (by kernel_rfl)]
                go_simp
                go_wp2_with (go_at_call 16; refine (KE2.out).mono ?_; rintro e WF ⟨rfl, hbf⟩; have HBF := hide (bseq HBE.out.drew hbf); clear hbf)
                refine hK.out _ _ trivial (fun hS2 => ?_)
                refine wpAnyH_take (i := 5) (v := (.bool false)) rfl (by kernel_rfl) (by kernel_rfl) (by kernel_rfl) (fun _ _ _ h => h) (Or.inl ⟨by kernel_rfl, fun w' hw => by (go_simp)⟩) hS2 ?_
                refine wpAnyH_done (by kernel_rfl) ?_ _
                simp only [Act.put, List.getElem_toArray, List.getElem_cons_zero, List.getElem_cons_succ, List.setIfInBounds_toArray, List.set_cons_zero, List.set_cons_succ]
                clear hS hS2 hK
                go_wp2_with (first | (go_at_call 17; refine (KZ.out).mono ?_; rintro e w' ⟨rfl, hw⟩; obtain rfl := hw.symm) | (go_at_call 7; refine (KWK.out _).mono ?_; rintro e W9 ⟨rfl, hB9⟩; have HB9 := hide (bseq HSD.out.bel (bseq HBF.out hB9)); clear hB9))
                go_ret
                exact ⟨rfl, HB9.out⟩
              · have HTA := hide hta
                have HTL := hide hT
                clear hta hT HWY
                have KW := hide (wakes HT.out)
                go_upto_region 17 with (go_at_call 12; refine (KW.out).mono ?_; rintro e WB ⟨rfl, haw, hg9⟩; have HAW := hide haw; have R12 := hide (plan_kept hg9 R11.out); clear haw hg9)
                obtain ⟨LB, hslB, htok⟩ := HAW.out
                have hN64 : 64 * t.n = N := by have h5 := HX.out; have h6 := HTN.out; omega
                have hN3 : 36992 ≤ N := by have h5 := HS.out.1; omega
                have hN4 : N ≤ 4194304 := by have h5 := htok.max; omega
                have ki := pimg_any hslB.dev htok
                rw [hN64] at ki
                have KI := hide ki
                have kr := fun X (hX : Below WB.heap.size WB X) => read_all (hslB.below hX).dev htok
                have kt := fun X (hX : Below WB.heap.size WB X) => root_all (hslB.below hX).dev htok
                unfold suC at kr
                simp only [HTL.out.rd, HQ0.out] at kr kt
                have e0 : ((rtV t : Nat) : Int) = 0 := by rw [HTL.out.rt]; rfl
                simp only [e0] at kt
                clear e0
                have KR := hide kr
                have KT := hide kt
                clear kr kt ki KW
                go_upto_region 20 with (first | (go_at_call 13; refine (KI.out).mono ?_; rintro e WC ⟨rfl, hoc, hbc⟩; have HOC := hide hoc; have HBC := hide hbc; clear hoc hbc) | (go_at_call 14; refine (KR.out _ HBC.out).mono ?_; rintro e V1 ⟨rfl, hb⟩; have HV1 := hide hb; have HK1 := hide (bseq HBC.out (hb.alloc (o := .cells #[.int .i64 (N : Int), .int .i64 128, .int .i64 32768, .int .i64 32896, .int .i64 q] 37) hb.size)); clear hb) | (go_at_call 15; refine (KT.out _ HK1.out).mono ?_; rintro e V2 ⟨rfl, hb⟩; have HV2 := hide hb; clear hb))
                have hbd := bseq HK1.out HV2.out
                have r14 := row_keep (heap_alloc_new V1 (.cells #[.int .i64 (N : Int), .int .i64 128, .int .i64 32768, .int .i64 32896, .int .i64 q] 37)) HV2.out
                have r11 := row_keep R12.out hbd
                have ad1 : Below WC.heap.size WC V2 := bseq (HV1.out.alloc (o := .cells #[.int .i64 (N : Int), .int .i64 128, .int .i64 32768, .int .i64 32896, .int .i64 q] 37) HV1.out.size) HV2.out
                have o1 : OwnB V2 WB.heap.size t.bytes := HOC.out.below ad1 HOC.out.lt
                have hslD := hslB.below hbd
                have o2 := hslD.own
                have tl : t.bytes.length = N := htok.len.trans hN64
                have ke : ∀ X, Below V2.heap.size V2 X → Calls Try.prog 16 #[.slice (some ⟨WB.heap.size, 192, none⟩) (N - 192) (N - 192), .slice (some ⟨g, 192, none⟩) (N - 192) (N - 192)] X fun e w' => e = .returned (.bool true) ∧ Below X.heap.size X w' := fun X hX => by
                  have k := parts_eq (o1.below hX o1.lt) (o2.below hX o2.lt) htok.byte HBB.out tl HBL.out hN4 192 (N - 192) (N - 192) (N - 192) (by omega)
                  rw [HDR.out, HBY.out, decide_eq_true rfl] at k
                  exact k
                have KE := hide (ke V2.drew (Below.refl _ _).drew)
                clear ke
                have HR14 := hide r14
                have HR11 := hide r11
                have O1 := hide o1
                have O2 := hide o2
                have HSD := hide hslD
                have HTK := hide htok
                have TL := hide tl
                have HV1s := hide HV1.out.size
                clear r14 r11 o1 o2 hslD tl ad1 hbd hslB htok
                generalize V1.heap.size = p14 at *
                refine wp_region_held_drew (S := fun _ => True) (by kernel_rfl) trivial (fun hS => ?_)
                refine wpAnyH_take (i := 0) (v := (.slice (some ⟨WB.heap.size, 0, none⟩) N N)) rfl (by kernel_rfl) (by kernel_rfl) (by kernel_rfl) (fun _ _ _ h => h) (Or.inl ⟨by kernel_rfl, fun w' hw => by (go_simp)⟩) hS ?_
                refine wpAnyH_take (i := 1) (v := (.int .i64 (N : Int))) rfl (by kernel_rfl) (by kernel_rfl) (by kernel_rfl) (fun _ _ _ h => h) (Or.inl ⟨by kernel_rfl, fun w' hw => by (go_simp)⟩) hS ?_
                refine wpAnyH_take (i := 2) (v := (.slice (some ⟨g, 0, none⟩) N N)) rfl (by kernel_rfl) (by kernel_rfl) (by kernel_rfl) (fun _ _ _ h => h) (Or.inl ⟨by kernel_rfl, fun w' hw => by (go_simp)⟩) hS ?_
                refine wpAnyH_take (i := 3) (v := (.int .i64 (N : Int))) rfl (by kernel_rfl) (by kernel_rfl) (by kernel_rfl) (fun _ _ _ h => h) (Or.inl ⟨by kernel_rfl, fun w' hw => by (go_simp)⟩) hS ?_
                refine wpAnyH_take (i := 4) (v := (.bool false)) rfl (by kernel_rfl) (by kernel_rfl) (by kernel_rfl) (fun _ _ _ h => h) (Or.inl ⟨by kernel_rfl, fun w' hw => by (go_simp)⟩) hS ?_
                refine wpAnyH_take (i := 5) (v := (.bool false)) rfl (by kernel_rfl) (by kernel_rfl) (by kernel_rfl) (fun _ _ _ h => h) (Or.inl ⟨by kernel_rfl, fun w' hw => by (go_simp)⟩) hS ?_
                refine wpAnyH_take (i := 6) (v := (.slice (some ⟨WB.heap.size, 0, none⟩) N N)) rfl (by kernel_rfl) (by kernel_rfl) (by kernel_rfl) (fun _ _ _ h => h) (Or.inl ⟨by kernel_rfl, fun w' hw => by (go_simp)⟩) hS ?_
                refine wpAnyH_take (i := 7) (v := (.slice (some ⟨WB.heap.size, 192, none⟩) (N - 192) (N - 192))) rfl (by kernel_rfl) (by kernel_rfl) (by kernel_rfl) (fun _ _ _ h => h) (Or.inl ⟨by kernel_rfl, fun w' hw => by (have e := slice_192 WB.heap.size N (by omega) w'; go_simp)⟩) hS ?_
                refine wpAnyH_take (i := 8) (v := (.slice (some ⟨g, 0, none⟩) N N)) rfl (by kernel_rfl) (by kernel_rfl) (by kernel_rfl) (fun _ _ _ h => h) (Or.inl ⟨by kernel_rfl, fun w' hw => by (go_simp)⟩) hS ?_
                refine wpAnyH_take (i := 9) (v := (.slice (some ⟨g, 192, none⟩) (N - 192) (N - 192))) rfl (by kernel_rfl) (by kernel_rfl) (by kernel_rfl) (fun _ _ _ h => h) (Or.inl ⟨by kernel_rfl, fun w' hw => by (have e := slice_192 g N (by omega) w'; go_simp)⟩) hS ?_
                refine wpAnyH_ready (rs := [10]) (by kernel_rfl) (by simp) ?_
                refine AllReadyH.cons rfl (fun K hK => ?_) AllReadyH.nil
                rw [if_pos (by kernel_rfl)]
                go_simp
                go_wp2_with (go_at_call 16; refine (KE.out).mono ?_; rintro e WE ⟨rfl, hbe⟩; have HBE := hide (bseq (Below.refl _ _).drew hbe); clear hbe)
                refine hK.out _ _ trivial (fun hS2 => ?_)
                refine wpAnyH_take (i := 11) (v := (.bool false)) rfl (by kernel_rfl) (by kernel_rfl) (by kernel_rfl) (fun _ _ _ h => h) (Or.inl ⟨by kernel_rfl, fun w' hw => by (go_simp)⟩) hS2 ?_
                refine wpAnyH_take (i := 12) (v := (.bool false)) rfl (by kernel_rfl) (by kernel_rfl) (by kernel_rfl) (fun _ _ _ h => h) (Or.inl ⟨by kernel_rfl, fun w' hw => by (go_simp)⟩) hS2 ?_
                refine wpAnyH_done (by kernel_rfl) ?_ _
                simp only [Act.put, List.getElem_toArray, List.getElem_cons_zero, List.getElem_cons_succ, List.setIfInBounds_toArray, List.set_cons_zero, List.set_cons_succ]
                clear hS hS2 hK
                have ke : Calls Try.prog 16 #[.slice (some ⟨WB.heap.size, 0, none⟩) 192 N, .slice (some ⟨g, 0, none⟩) 192 N] WE.drew fun e w' => e = .returned (.bool false) ∧ Below WE.drew.heap.size WE.drew w' := by
                  have hX := HBE.out.drew
                  have k := parts_eq (O1.out.below hX O1.out.lt) (O2.out.below hX O2.out.lt) HTK.out.byte HBB.out TL.out HBL.out hN4 0 192 N N (by omega)
                  rw [List.drop_zero, List.drop_zero, decide_eq_false (fun h => HTA.out (h.trans (by rw [HBY.out])))] at k
                  exact k
                have KE2 := hide ke
                clear ke
                go_upto_region 24 with (fail)
                refine wp_region_held_drew (S := fun _ => True) (by kernel_rfl) trivial (fun hS => ?_)
                refine wpAnyH_take (i := 0) (v := (.slice (some ⟨WB.heap.size, 0, none⟩) N N)) rfl (by kernel_rfl) (by kernel_rfl) (by kernel_rfl) (fun _ _ _ h => h) (Or.inl ⟨by kernel_rfl, fun w' hw => by (go_simp)⟩) hS ?_
                refine wpAnyH_take (i := 1) (v := (.slice (some ⟨WB.heap.size, 0, none⟩) 192 N)) rfl (by kernel_rfl) (by kernel_rfl) (by kernel_rfl) (fun _ _ _ h => h) (Or.inl ⟨by kernel_rfl, fun w' hw => by (have e := slice_to192 WB.heap.size N (by omega) (by omega) w'; go_simp)⟩) hS ?_
                refine wpAnyH_take (i := 2) (v := (.slice (some ⟨g, 0, none⟩) N N)) rfl (by kernel_rfl) (by kernel_rfl) (by kernel_rfl) (fun _ _ _ h => h) (Or.inl ⟨by kernel_rfl, fun w' hw => by (go_simp)⟩) hS ?_
                refine wpAnyH_take (i := 3) (v := (.slice (some ⟨g, 0, none⟩) 192 N)) rfl (by kernel_rfl) (by kernel_rfl) (by kernel_rfl) (fun _ _ _ h => h) (Or.inl ⟨by kernel_rfl, fun w' hw => by (have e := slice_to192 g N (by omega) (by omega) w'; go_simp)⟩) hS ?_
                refine wpAnyH_ready (rs := [4]) (by kernel_rfl) (by simp) ?_
                refine AllReadyH.cons rfl (fun K hK => ?_) AllReadyH.nil
                rw [if_pos (by kernel_rfl)]
                go_simp
                go_wp2_with (go_at_call 16; refine (KE2.out).mono ?_; rintro e WF ⟨rfl, hbf⟩; have HBF := hide (bseq HBE.out.drew hbf); clear hbf)
                refine hK.out _ _ trivial (fun hS2 => ?_)
                refine wpAnyH_take (i := 5) (v := (.bool false)) rfl (by kernel_rfl) (by kernel_rfl) (by kernel_rfl) (fun _ _ _ h => h) (Or.inl ⟨by kernel_rfl, fun w' hw => by (go_simp)⟩) hS2 ?_
                refine wpAnyH_done (by kernel_rfl) ?_ _
                simp only [Act.put, List.getElem_toArray, List.getElem_cons_zero, List.getElem_cons_succ, List.setIfInBounds_toArray, List.set_cons_zero, List.set_cons_succ]
                clear hS hS2 hK
                have kz : ∀ X, Below V2.heap.size V2 X → Calls Try.prog 17 #[.slice (some ⟨WB.heap.size, 64, none⟩) 128 (N - 64)] X fun e w' => e = .returned (.bool true) ∧ w' = X := fun X hX => zero_any 128 (N - 64) ((t.bytes.drop 64).take 128) (by rw [List.length_take, List.length_drop, TL.out]; omega) (by omega) (fun i y hy => by
                    rw [List.getElem?_take] at hy
                    split at hy
                    · rw [List.getElem?_drop] at hy
                      exact ⟨(O1.out.below hX O1.out.lt).cell (64 + i) y hy, HTK.out.byte y (List.mem_of_getElem? hy)⟩
                    · cases hy) HTL.out.heads
                have sh := fun X => slice_heads WB.heap.size N (by omega) hN4 X
                have KZ := hide (kz WF HBF.out)
                clear kz
                obtain ⟨c0, c1, c2, c3, c4⟩ := suBox (row_keep HR14.out HBF.out)
                obtain ⟨k0, k1, k2, k3, k4⟩ := suBox (row_keep HR11.out HBF.out)
                have hg := Try.noGuard37
                have he := fun W => eql_su (N : Int) 128 32768 32896 q (N : Int) 128 32768 32896 q W
                have hsS : sameS (N : Int) 128 32768 32896 q (N : Int) 128 32768 32896 q = true := by simp [sameS]
                rw [hsS] at he
                clear hsS
                go_wp2_with (first | (go_at_call 17; refine (KZ.out).mono ?_; rintro e w' ⟨rfl, hw⟩; obtain rfl := hw.symm) | (go_at_call 7; refine (KWK.out _).mono ?_; rintro e W9 ⟨rfl, hB9⟩; have HB9 := hide (bseq HSD.out.bel (bseq HBF.out hB9)); clear hB9))
                go_ret
                exact ⟨rfl, HB9.out⟩
          · have kf := format_no hsl.dev hok hoff (by rw [← hx]; exact hs)
            have kp : ∀ W, Calls Try.prog 10 #[.int .i64 (N : Int)] W fun e w' => e = .returned (.tuple #[.agg #[.int .i64 0, .int .i64 0, .int .i64 0, .int .i64 0, .int .i64 0], .int .i64 80]) ∧ Below W.heap.size W w' := fun W => plan_no (N : Int) W (by omega) (by omega) hs
            have HW := hide hsl.bel
            have KF := hide kf
            have KP := hide kp
            clear kf kp hs hx hn hby hsl hok hpast hoff hop hcn hLN hfw HSL AH0 KAR
            go_wp2_with (first
              | (go_at_call 9; refine (KF.out).mono ?_; rintro e W6 ⟨rfl, hB6⟩; have h6 := bseq HW.out hB6; have HB6 := hide (h6.alloc (o := .cells #[.int .i64 0, .int .i64 0, .int .i64 0, .int .i64 0, .int .i64 0] 37) h6.size); clear hB6 h6)
              | (go_at_call 10; refine (KP.out _).mono ?_; rintro e W7 ⟨rfl, hB7⟩; have h7 := bseq HB6.out hB7; have HB7 := hide (h7.alloc (o := .cells #[.int .i64 0, .int .i64 0, .int .i64 0, .int .i64 0, .int .i64 0] 37) h7.size); clear hB7 h7)
              | (go_at_call 7; refine (KWK.out _).mono ?_; rintro e W9 ⟨rfl, hB9⟩; have HB9 := hide (bseq HB7.out hB9); clear hB9))
            go_ret
            exact ⟨rfl, HB9.out⟩
    · have KF := hide (fun (a : Option Addr) (X : World) => pfrom_no a N N X (by omega) hf)
      clear hf
      go_wp2_with (first
        | (go_at_call 6; refine (KC.out).mono ?_; rintro e W2 ⟨rfl, ho2, hB2⟩; have HB2 := hide (bseq HB1.out hB2); clear ho2 hB2)
        | (go_at_call 5; refine (KF.out _ W2).mono ?_; rintro e w' ⟨rfl, hw⟩; obtain rfl := hw.symm)
        | (go_at_call 7; refine (KWK.out W2).mono ?_; rintro e W3 ⟨rfl, hB3⟩; have HB3 := hide (bseq HB2.out hB3); clear hB3))
      go_ret
      exact ⟨rfl, HB3.out⟩
end Go.Proofs.Ytmljacjbpcgijaa
namespace Go.Proofs.Ytmljacjbpcgijaa
open Go.ChangeShapes Go.WideShapes Go.ChangeAt Go.RowKit
set_option linter.unusedVariables false
theorem trod_len {H : Type} {enc : TypeId × Value → H} {W : World} {t e : TypeId} {a : Option Addr} {l c : Nat} {d : DataW H} {p : List MemPlace} (ht : Try.prog.underlying t = some (.slice e)) (h : DataW.Trod enc Try.prog W 0 (fun _ => true) true t (.slice a l c) d p)
    (hz : ∀ el sp, d = .slice el sp → (el.length + sp.length) * Try.prog.bytesOf e ≤ reachBytes) : l * Try.prog.bytesOf e ≤ reachBytes := by
  obtain ⟨fuel, hf⟩ := h
  have hf : DataW.trod enc Try.prog W 0 (fun _ => true) true fuel t [.slice a l c] = some (d, p) := by simpa [Value.cells] using hf
  rcases Go.Deep.open_slice ht hf with ⟨hcs, hx0⟩ | ⟨ad, l', c', m, n, D, Pl, hcs, _, hl, hm, hmm, hx, hele⟩
  · simp at hcs
    obtain ⟨rfl, rfl, rfl⟩ := hcs
    simp
  · simp at hcs
    obtain ⟨rfl, rfl, rfl⟩ := hcs
    simp only [Prod.mk.injEq] at hx
    have h5 := hz _ _ hx.1
    simp only [List.length_map, List.length_range] at h5
    exact Nat.le_trans (Nat.mul_le_mul_right _ (Nat.le_add_right _ _)) h5
theorem len_nums {l : Nat} (h : l * Try.prog.bytesOf 3 ≤ reachBytes) : l ≤ 17592186043904 := by
  have e : Try.prog.bytesOf 3 = 8 := by kernel_rfl
  have e2 : reachBytes = 140737488351232 := by decide
  rw [e, e2] at h; omega
theorem open_keepN {H : Type} {enc : TypeId × Value → H} {W : World} {v : Value} {d : DataW H} {p : List MemPlace} (h : DataW.Trod enc Try.prog W 0 (fun _ => true) true 25 v d p) (hv : ∃ a l c, v = .slice a l c) :
    ∃ (a : Option Addr) (nk c : Nat) (zs : List Int), v = .slice a nk c ∧ IntsP W a zs ∧ zs.length = nk ∧ nk ≤ c ∧ (a = none → zs = [] ∧ c = 0) := by
  obtain ⟨a, l, c, rfl⟩ := hv
  obtain ⟨fuel, hf⟩ := h
  have hf : DataW.trod enc Try.prog W 0 (fun _ => true) true fuel 25 [.slice a l c] = some (d, p) := by simpa [Value.cells] using hf
  rcases open_ints Try.underlying25 Try.underlying3 (by kernel_rfl) hf with ⟨hcs, hx0⟩ | ⟨ad, l', cap, zs, hcs, _, hl, hm, hzl, hx, hcell, hwz⟩
  · simp at hcs
    obtain ⟨rfl, rfl, rfl⟩ := hcs
    exact ⟨none, 0, 0, [], rfl, ⟨by simp, .inl rfl⟩, rfl, Nat.le_refl _, fun _ => ⟨rfl, rfl⟩⟩
  · simp at hcs
    obtain ⟨rfl, rfl, rfl⟩ := hcs
    simp only [if_true] at hzl
    have htl : (zs.take l).length = l := by rw [List.length_take]; omega
    refine ⟨some ad, l, c, zs.take l, rfl, ⟨fun z hz => bounds_i64 (hwz z (List.mem_of_mem_take hz)), ?_⟩, htl, hl, ?_⟩
    · by_cases h0 : l = 0
      · subst h0; exact .inl (by simp)
      · obtain ⟨b, off, spot⟩ := ad
        have hc := hcell 0 (by omega)
        have hspot : spot = none := by simpa [Addr.add] using World.cell?_spot hc
        subst hspot
        refine .inr ⟨b, off, rfl, World.block_lt_of_cell? _ _ hc, fun i y hy => ?_⟩
        have hi : i < l := by
          have := (List.getElem?_eq_some_iff.1 hy).1
          omega
        rw [List.getElem?_take, if_pos hi] at hy
        have h1 := hcell i (by omega)
        have e : (⟨b, off, none⟩ : Addr).add i = ⟨b, off + i, none⟩ := by simp [Addr.add]
        rw [e] at h1
        rw [h1, List.getD_eq_getElem?_getD, hy]
        rfl
    · intro h; cases h
end Go.Proofs.Ytmljacjbpcgijaa
namespace Go.Proofs.Ytmljacjbpcgijaa
open Go.ChangeShapes Go.WideShapes Go.ChangeAt Go.RowKit
set_option linter.unusedVariables false
set_option maxRecDepth 100000

theorem Try.cellsIm : Try.prog.cellsOf 24 = 5 := by kernel_rfl
theorem Try.cellsII : Try.prog.cellsOf 3 = 1 := by kernel_rfl
theorem Try.cellsIB : Try.prog.cellsOf 5 = 1 := by kernel_rfl
theorem Try.cellsIY : Try.prog.cellsOf 22 = 1 := by kernel_rfl
theorem Try.cellsIO : Try.prog.cellsOf 4 = 1 := by kernel_rfl
/-- The five cells. -/
theorem image_cells {H : Type} {enc : TypeId × Value → H} {W : World} {fuel : Nat} {cs : List Value} {x : DataW H × List MemPlace}
    (h : DataW.trod enc Try.prog W 0 (fun _ => true) true fuel 24 cs = some x) :
    ∃ (sz tu : Int) (fi : Nat) (a : Option Addr) (cap : Nat) (bs : List Nat) (rt : Bool), cs = [.int .i64 sz, .int .u8 (fi : Int), .slice a bs.length cap, .bool rt, .int .i64 tu] ∧ Sl W a bs ∧ bs.length ≤ 9223372036854775807 ∧ (-9223372036854775808 ≤ sz ∧ sz ≤ 9223372036854775807) ∧ (-9223372036854775808 ≤ tu ∧ tu ≤ 9223372036854775807) ∧ fi < 256 := by
  obtain ⟨xs, n, _, hx, hl, hlen, hf⟩ := DataW.trod_struct Try.underlying24 h
  rw [Try.cellsIm] at hl
  match cs, hl with
  | [c0, c1, c2, c3, c4], _ =>
    match xs, hlen with
    | [y0, y1, y2, y3, y4], _ =>
      have h0 := hf 0 _ rfl
      have h1 := hf 1 _ rfl
      have h2 := hf 2 _ rfl
      have h3 := hf 3 _ rfl
      have h4 := hf 4 _ rfl
      simp [Try.cellsII, Try.cellsIB, Try.cellsIY, Try.cellsIO] at h0 h1 h2 h3 h4
      obtain ⟨a, l, c, rfl⟩ : ∃ a l c, c2 = .slice a l c := by
        rcases open_ints Try.underlying22 Try.underlying5 (by kernel_rfl) h2 with ⟨e, _⟩ | ⟨a, l, c, _, e, _⟩
        · simp at e; exact ⟨_, _, _, e⟩
        · simp at e; exact ⟨_, _, _, e⟩
      obtain ⟨bs, rfl, hs, hbl, _⟩ := open_bytes_up (d := y2.1) (p := y2.2) ⟨n, h2⟩
      obtain ⟨sz, e0, _, w0⟩ := DataW.trod_int Try.underlying3 h0
      obtain ⟨z, e1, _, w1⟩ := DataW.trod_int Try.underlying5 h1
      obtain ⟨rt, e3, _⟩ := DataW.trod_bool Try.underlying4 h3
      obtain ⟨tu, e4, _, w4⟩ := DataW.trod_int Try.underlying3 h4
      simp at e0 e1 e3 e4
      subst e0 e1 e3 e4
      have b1 := bounds_u8 w1
      obtain ⟨fi, rfl⟩ : ∃ v : Nat, z = (v : Int) := ⟨z.toNat, by omega⟩
      exact ⟨sz, tu, fi, a, c, bs, rt, rfl, hs, hbl, bounds_i64 w0, bounds_i64 w4, by omega⟩
theorem open_image {H : Type} {enc : TypeId × Value → H} {W : World} {r : Reach} {b0 : Nat} {v : Value} {d : DataW H} {p : List MemPlace}
    (hv : Value.okWide Try.prog W r b0 24 v) (h : DataW.Trod enc Try.prog W 0 (fun _ => true) true 24 v d p) :
    ∃ (sz tu : Int) (fi : Nat) (a : Option Addr) (cap : Nat) (bs : List Nat) (rt : Bool), v = .agg #[.int .i64 sz, .int .u8 (fi : Int), .slice a bs.length cap, .bool rt, .int .i64 tu] ∧ Sl W a bs ∧ bs.length ≤ 9223372036854775807 ∧ (-9223372036854775808 ≤ sz ∧ sz ≤ 9223372036854775807) ∧ (-9223372036854775808 ≤ tu ∧ tu ≤ 9223372036854775807) ∧ fi < 256 := by
  obtain ⟨cs, rfl, hsz⟩ := okWide_struct Try.underlying24 hv
  obtain ⟨fuel, hf⟩ := h
  obtain ⟨sz, tu, fi, a, cap, bs, rt, e5, hb⟩ := image_cells hf
  refine ⟨sz, tu, fi, a, cap, bs, rt, ?_, hb⟩
  have e' : cs.toList = [.int .i64 sz, .int .u8 (fi : Int), .slice a bs.length cap, .bool rt, .int .i64 tu] := by simpa [Value.cells] using e5
  rw [← Array.toArray_toList (xs := cs), e']
end Go.Proofs.Ytmljacjbpcgijaa
namespace Go.Proofs.Ytmljacjbpcgijaa.superLost
open Go.ChangeShapes Go.WideShapes Go.ChangeAt Go.RowKit Go.Proofs.Ytmljacjbpcgijaa
set_option linter.unusedVariables false

set_option maxRecDepth 100000 in
theorem lifted (os : Os) (started : os.Started) (H : Type) (enc : TypeId × Value → H) :
    ReturnsInHanded {} Try.checked os 3 .any (Rows.superLostSpec.pre6 enc Try.prog Try.f3 Rows.superLostRow.domain false) (Rows.superLostSpec.post enc Try.prog Try.f3 false true false false) := by
  refine returnsInHanded_of_change_sized (C := Try.checked) own started (by kernel_rfl) Try.func3
    (ChangeSpec.witness6 (enc := enc) (C := Try.checked) false ⟨#[], #[.agg #[.int .i64 0, .int .u8 0, .slice none 0 0, .bool false, .int .i64 0], .int .i64 0, .slice none 0 0], []⟩ 8 (by kernel_rfl) (by kernel_rfl) (by kernel_rfl) (by kernel_rfl)) ?_
  intro W base args ds gs before hval0 hW hcnd hsz0 _
  have hval : ∀ (j : Nat) t v, Try.f3.params[j]? = some t → args[j]? = some v → Value.okWide Try.prog W .any base t v := hval0
  have hsz : (DataW.weightsEach Try.prog (Try.f3.params.toList ++ Rows.superLostSpec.plain.varTypes Try.prog) (ds ++ gs)).all (· ≤ reachBytes) = true := hsz0
  have hW' := hW
  obtain ⟨p, q, hA0, hV, rfl, hfz, hnd⟩ := hW
  have hA : DataW.TrodAll enc Try.prog W 0 (fun _ => true) true Try.f3.params.toList args.toList ds p := hA0
  rw [Try.params3] at hA hval hsz
  obtain ⟨v0, vs0, d0, ds0, p0, q0, hargs, rfl, rfl, h0, r0⟩ := trodAll_cons hA
  obtain ⟨v1, vs1, d1, ds1, p1, q1, rfl, rfl, rfl, h1, r1⟩ := trodAll_cons r0
  obtain ⟨v2, vs2, d2, ds2, p2, q2, rfl, rfl, rfl, h2, r2⟩ := trodAll_cons r1
  obtain ⟨rfl, rfl, rfl⟩ := trodAll_nil r2
  obtain rfl : args = #[v0, v1, v2] := by cases args; simp_all
  obtain ⟨rfl, rfl⟩ := trodVars_none hV
  have k0 := h0
  have lt0 : ∀ x ∈ p0, x.block < W.heap.size := by obtain ⟨m, hm⟩ := k0; exact DataW.trod_lt m _ _ _ hm
  obtain ⟨sz0, tu0, fi0, ia0, ic0, ib0, rt0, rfl, s0, l0, z0, t0, f0⟩ := open_image (hval 0 24 v0 rfl rfl) h0
  obtain ⟨a1, rfl, rfl, rfl, w1⟩ := open_int Try.underlying3 (hval 1 3 v1 rfl rfl) h1
  have k2 := h2
  have lt2 : ∀ x ∈ p2, x.block < W.heap.size := by obtain ⟨m, hm⟩ := k2; exact DataW.trod_lt m _ _ _ hm
  obtain ⟨ka2, nk2, kc2, zs2, rfl, hz2, zl2, zc2, zb2⟩ := open_keepN h2 (by obtain ⟨a, l, c, e⟩ := okWide_slice Try.underlying25 (hval 2 25 v2 rfl rfl); exact ⟨a, l, c, e⟩)
  have z2 := len_nums (trod_len Try.underlying25 k2 (fun el sp hd => by subst hd; exact sized_slice hsz (j := 2) (t := 25) (e := 3) rfl rfl Try.underlying25))
  clear hval0
  clear hA0
  refine (superLost_walk W sz0 tu0 fi0 ia0 ib0.length ic0 rt0 ib0 a1 ka2 nk2 kc2 zs2 s0 rfl l0 f0 z0 t0 hz2 zl2 z2 zc2 zb2).mono fun e W' ⟨he, bel⟩ => ?_
  subst he
  exact ⟨_, rfl, _, _, _, [], _, [], hW', trodAll_mk1 (shut_bool Try.underlying4 _), (trodAll_cons_mk (Below.trod laidOut (by kernel_rfl) (of_decide_eq_true (by kernel_rfl)) k0 bel lt0) (trodAll_cons_mk (shut_int Try.underlying3 w1) (trodAll_cons_mk (Below.trod laidOut (by kernel_rfl) (of_decide_eq_true (by kernel_rfl)) k2 bel lt2) trodAll_mk0))), rfl, bel.frame _, fun h => by cases h⟩

theorem over : Rows.superLostRow.holds Try.pinned (OpenSpec.ofChange Rows.superLostSpec) :=
  OpenClaim.holds_of_wide 3 Try.f3 rfl rfl rfl rfl rfl rfl rfl ⟨rfl, rfl, rfl, rfl, rfl⟩ rfl rfl rfl rfl rfl (by kernel_rfl) Try.func3 (by kernel_rfl)
    (of_decide_eq_true (by kernel_rfl)) (by unfold Func.isWrapper; first | (rw [if_pos (by decide +kernel)]; kernel_rfl) | (rw [if_neg (by decide +kernel)]; exact ⟨rfl, rfl⟩))
    (fun os started H enc _ => lifted os started H enc)

end Go.Proofs.Ytmljacjbpcgijaa.superLost

namespace Go.Proofs.Ytmljacjbpcgijaa
/-- SuperLost, as it is stated. -/
theorem superLost_holds : Rows.SuperLostSaid := superLost.over
#print axioms superLost_holds
end Go.Proofs.Ytmljacjbpcgijaa
