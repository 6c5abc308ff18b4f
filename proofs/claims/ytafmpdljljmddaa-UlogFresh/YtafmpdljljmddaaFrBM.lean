/- For UlogFresh: the bytes of records as lists that lie apart; two rows of records that are written over and grown. -/
import Derived.Test.YtafmpdljljmddaaUhBM
import Derived.Test.YtafmpdljljmddaaPSet
import Derived.Test.YtafmpdljljmddaaHelp
import Derived.Test.YtafmpdljljmddaaPOpGM
import Derived.Test.YtafmpdljljmddaaQWhXM
import Derived.Test.YtafmpdljljmddaaApartO
import Derived.Maps.AppendAt
namespace Go.Proofs.Ytafmpdljljmddaa
open Go.RowKit Go.Shelf
set_option linter.unusedVariables false
set_option maxRecDepth 100000

/-- How many bytes an extent is brought to, and where. -/
def brN (l : Int) : Int := 1 + IntKind.i64.wrap (l - 1) % 40
def brA (x l : Int) : Int := if 256 ≤ x ∨ x < 0 then 512 + x % (513 - brN l) else 64 + x % (65 - brN l)
def brE (x : Int × Int) : Int × Int := (brA x.1 x.2, brN x.2)
def brL (xs : List (Int × Int)) (i : Nat) : List (Int × Int) := (xs.take i).map brE
theorem brL_succ {xs : List (Int × Int)} {i : Nat} {x : Int × Int} (h : xs[i]? = some x) : brL xs (i + 1) = brL xs i ++ [brE x] := by
  unfold brL
  rw [List.take_add_one, h]
  simp
theorem brL_len {xs : List (Int × Int)} {i : Nat} (h : i ≤ xs.length) : (brL xs i).length = i := by
  unfold brL
  rw [List.length_map, List.length_take]
  omega
theorem brN_in (l : Int) : 1 ≤ brN l ∧ brN l ≤ 40 := by unfold brN; omega
theorem brA_in (x l : Int) : (64 ≤ brA x l ∧ brA x l + brN l ≤ 128) ∨ (512 ≤ brA x l ∧ brA x l + brN l ≤ 1024) := by
  have h := brN_in l
  unfold brA
  have e1 : 0 ≤ x % (513 - brN l) := Int.emod_nonneg _ (by omega)
  have e2 : x % (513 - brN l) < 513 - brN l := Int.emod_lt_of_pos _ (by omega)
  have e3 : 0 ≤ x % (65 - brN l) := Int.emod_nonneg _ (by omega)
  have e4 : x % (65 - brN l) < 65 - brN l := Int.emod_lt_of_pos _ (by omega)
  split <;> omega
theorem brL_in {xs : List (Int × Int)} {i : Nat} : ∀ y ∈ brL xs i, 1 ≤ y.2 ∧ y.2 ≤ 40 ∧ ((64 ≤ y.1 ∧ y.1 + y.2 ≤ 128) ∨ (512 ≤ y.1 ∧ y.1 + y.2 ≤ 1024)) := by
  intro y hy
  unfold brL at hy
  obtain ⟨x, _, rfl⟩ := List.mem_map.1 hy
  have h1 := brN_in x.2
  have h2 := brA_in x.1 x.2
  exact ⟨h1.1, h1.2, h2⟩
theorem brL_fine {xs : List (Int × Int)} {i : Nat} : ∀ y ∈ brL xs i, Fine 128 384 16 y := by
  intro y hy
  obtain ⟨h1, h2, h3⟩ := brL_in y hy
  exact ⟨by omega, by omega, by omega, by omega⟩
/-- Extents that were handed in. -/
def SlX (w : World) (a : Option Addr) (xs : List (Int × Int)) : Prop := (∀ x ∈ xs, (-9223372036854775808 ≤ x.1 ∧ x.1 ≤ 9223372036854775807) ∧ (-9223372036854775808 ≤ x.2 ∧ x.2 ≤ 9223372036854775807)) ∧ (xs = [] ∨ ∃ g o, a = some ⟨g, o, none⟩ ∧ g < w.heap.size ∧ ∀ (i : Nat) (x l : Int), xs[i]? = some (x, l) → w.cell? ⟨g, o + i * 2, none⟩ = some (.int .i64 x) ∧ w.cell? ⟨g, o + i * 2 + 1, none⟩ = some (.int .i64 l))
theorem SlX.below {w w' : World} {a : Option Addr} {xs : List (Int × Int)} (h : SlX w a xs) (hB : Below w.heap.size w w') : SlX w' a xs := by
  refine ⟨h.1, h.2.imp id ?_⟩
  rintro ⟨g, o, e, hg, hc⟩
  exact ⟨g, o, e, Nat.lt_of_lt_of_le hg hB.size, fun i x l hi => ⟨(hB.cell (p := ⟨g, o + i * 2, none⟩) hg).trans (hc i x l hi).1, (hB.cell (p := ⟨g, o + i * 2 + 1, none⟩) hg).trans (hc i x l hi).2⟩⟩
set_option maxHeartbeats 2000000 in
theorem ubrought_any {w : World} {ea a1 a2 : Option Addr} {xs : List (Int × Int)} {m c m1 c1 m2 c2 : Nat} {lg : Bool} (h : SlX w ea xs) (hm : xs.length = m) :
    Calls Try.prog 6 #[.agg #[.slice ea m c, .slice a1 m1 c1, .slice a2 m2 c2, .bool lg]] w fun e w' => ∃ v, e = .returned v ∧ ∃ k, k ≤ m ∧ k ≤ 5 ∧ w'.ownsRow w.heap.size 48 2 v k (exC (brL xs k)) ∧ Below w.heap.size w w' := by
  obtain ⟨i0, hi0, hz0, hz1, hz2⟩ := infoExt
  have hA : Below w.heap.size w (w.alloc (.cells #[.slice ea m c, .slice a1 m1 c1, .slice a2 m2 c2, .bool lg] 26)) := (Below.refl _ w).alloc (Nat.le_refl _) _
  have hX := heap_alloc_new w (.cells #[.slice ea m c, .slice a1 m1 c1, .slice a2 m2 c2, .bool lg] 26)
  have HH := hide h
  have HM := hide hm
  clear h hm
  go_enter Try.func6, Try.ntmps6
  go_wp2
  generalize hXX : w.alloc (.cells #[.slice ea m c, .slice a1 m1 c1, .slice a2 m2 c2, .bool lg] 26) = X at *
  have hsX : w.heap.size < X.heap.size := lt_of_heap hX
  have HA := hide hA
  have HX := hide hX
  clear hA hX hXX
  go_loopw [3, 4] (fun lv iv wr => ∃ i : Nat, iv = .int .i64 (i : Int) ∧ i ≤ m ∧ i ≤ 5 ∧ wr.ownsRow X.heap.size 48 2 lv i (exC (brL xs i)) ∧ Below X.heap.size X wr) (fun _ iv _ => (5 - (intOf iv).toNat))
  case atStart => exact ⟨0, rfl, Nat.zero_le _, Nat.zero_le _, ⟨rfl, .inl ⟨rfl, rfl⟩⟩, Below.refl _ _⟩
  case round =>
    obtain ⟨i, rfl, him, hi5, hr, hB⟩ := hrel
    have cS : wr.cell? ⟨w.heap.size, 0, none⟩ = some (.slice ea m c) := (hB.cell (p := ⟨w.heap.size, 0, none⟩) hsX).trans (cell8 HX.out 0)
    by_cases hlt : i < m
    · have iI : (i : Int) < (m : Int) := by omega
      by_cases hlt5 : i < 5
      · have iI5 : (i : Int) < 5 := by omega
        obtain ⟨x, hx⟩ : ∃ x, xs[i]? = some x := ⟨_, List.getElem?_eq_getElem (by rw [HM.out]; exact hlt)⟩
        have hxb := HH.out.1 x (List.mem_of_getElem? hx)
        have hbs := brL_succ hx
        obtain ⟨x, l⟩ := x
        obtain ⟨g, o, rfl, hg, hcc⟩ : ∃ g o, ea = some ⟨g, o, none⟩ ∧ g < w.heap.size ∧ ∀ (i : Nat) (x l : Int), xs[i]? = some (x, l) → w.cell? ⟨g, o + i * 2, none⟩ = some (.int .i64 x) ∧ w.cell? ⟨g, o + i * 2 + 1, none⟩ = some (.int .i64 l) := by
          rcases HH.out.2 with e | e
          · rw [e] at hx; simp at hx
          · exact e
        have hgr : Below w.heap.size w wr := bseq HA.out hB
        have cx : wr.cell? ⟨g, o + i * 2, none⟩ = some (.int .i64 x) := (hgr.cell (p := ⟨g, o + i * 2, none⟩) hg).trans (hcc i x l hx).1
        have cl : wr.cell? ⟨g, o + i * 2 + 1, none⟩ = some (.int .i64 l) := (hgr.cell (p := ⟨g, o + i * 2 + 1, none⟩) hg).trans (hcc i x l hx).2
        have ib := index_ext g o i m c hlt wr
        simp only at hxb
        obtain ⟨hxb, hlb⟩ := hxb
        obtain ⟨lw, hlw⟩ : ∃ lw, IntKind.i64.wrap (l - 1) = lw := ⟨_, rfl⟩
        have hlw2 : -9223372036854775808 ≤ lw ∧ lw ≤ 9223372036854775807 := by rw [← hlw, IntKind.wrap_i64]; omega
        have hN := brN_in l
        have eN : 1 + lw % 40 = brN l := by unfold brN; rw [hlw]
        have eA := brA_in x l
        have KW1 := hide (fun W => uwithin_any W lw 40 (by omega) (by omega) hlw2.1 hlw2.2)
        obtain ⟨nv, hnv⟩ : ∃ nv, brN l = nv := ⟨_, rfl⟩
        rw [hnv] at hN eN eA
        obtain ⟨av, hav⟩ : ∃ av, brA x l = av := ⟨_, rfl⟩
        rw [hav] at eA
        have hE : brE (x, l) = (av, nv) := by unfold brE; rw [hav, hnv]
        rw [hE] at hbs
        obtain ⟨lm, hlm⟩ : ∃ lm, lw % 40 = lm := ⟨_, rfl⟩
        rw [hlm] at KW1 eN
        have wn : IntKind.i64.wrap (1 + lm) = nv := by rw [eN, IntKind.wrap_i64]; omega
        have s1 : IntKind.i64.wrap (64 - nv) = 64 - nv := by rw [IntKind.wrap_i64]; omega
        have s2 : IntKind.i64.wrap (64 - nv + 1) = 65 - nv := by rw [IntKind.wrap_i64]; omega
        have s3 : IntKind.i64.wrap (512 - nv) = 512 - nv := by rw [IntKind.wrap_i64]; omega
        have s4 : IntKind.i64.wrap (512 - nv + 1) = 513 - nv := by rw [IntKind.wrap_i64]; omega
        have KW2 := hide (fun W => uwithin_any W x (65 - nv) (by omega) (by omega) hxb.1 hxb.2)
        have KW3 := hide (fun W => uwithin_any W x (513 - nv) (by omega) (by omega) hxb.1 hxb.2)
        have e3 : 0 ≤ x % (65 - nv) := Int.emod_nonneg _ (by omega)
        have e4 : x % (65 - nv) < 65 - nv := Int.emod_lt_of_pos _ (by omega)
        have e5 : 0 ≤ x % (513 - nv) := Int.emod_nonneg _ (by omega)
        have e6 : x % (513 - nv) < 513 - nv := Int.emod_lt_of_pos _ (by omega)
        have hav2 := hav
        unfold brA at hav2
        rw [hnv] at hav2
        generalize x % (65 - nv) = q1 at *
        generalize x % (513 - nv) = q2 at *
        have s5 : IntKind.i64.wrap (64 + q1) = 64 + q1 := by rw [IntKind.wrap_i64]; omega
        have s6 : IntKind.i64.wrap (512 + q2) = 512 + q2 := by rw [IntKind.wrap_i64]; omega
        have HBS := hide hbs
        have HR := hide hr
        have HB := hide hB
        have M1 := hide trivial
        have M2 := hide trivial
        have HAV := hav2
        clear hbs hr hB hgr hcc hg hx hE hlm hav hnv eA hlw2 hav2
        by_cases hf1 : 256 ≤ x
        · rw [if_pos (.inl hf1)] at HAV
          subst HAV
          have u9 : True := trivial
          have hA1 : Below wr.heap.size wr (wr.alloc (.cells #[.int .i64 (512 + q2), .int .i64 nv] 48)) := (Below.refl _ wr).alloc (Nat.le_refl _) _
          have HO1 := hide (own_below HR.out hA1)
          have HB1 := hide (bseq HB.out hA1)
          have hsz1 : X.heap.size ≤ (wr.alloc (.cells #[.int .i64 (512 + q2), .int .i64 nv] 48)).heap.size := HB1.out.size
          clear hA1
          go_wp2_with (first
            | (go_at_call 19; clear M1; refine (KW1.out _).mono ?_; rintro e w' ⟨rfl, hw⟩; obtain rfl := hw.symm)
            | (go_at_call 19; clear M2; refine (KW2.out _).mono ?_; rintro e w' ⟨rfl, hw⟩; obtain rfl := hw.symm)
            | (go_at_call 19; refine (KW3.out _).mono ?_; rintro e w' ⟨rfl, hw⟩; obtain rfl := hw.symm)
            | (at_builtin; refine wpList_append_own_at _ rfl _ _ 22 rfl X.heap.size 48 i0 (.agg #[.int .i64 0, .int .i64 0]) 2 16 Try.underlying22 hi0 hz0 hz1 hz2 rfl (by decide) u3 i (exC (brL xs i)) rfl HO1.out ⟨wr.heap.size, 0, none⟩ 1 1 [.int .i64 (512 + q2), .int .i64 nv] rfl rfl (cell_twoU wr _ _ _) (by simp [Value.oneCell']) (by unfold maxLen; omega) (by omega) hsz1 ?_
               intro v1 x1 ho3 hg3 hnn hat; clear hnn hat
               have HO3 := hide ho3
               have HB3 := hide (bel_of_grownT HB1.out HO1.out hg3)
               clear ho3 hg3))
          first | go_roundw | skip
          all_goals first
            | exact ⟨⟨i + 1, int_congrP (by omega), by omega, by omega, by rw [HBS.out, exC_snoc]; exact HO3.out, HB3.out⟩, by simp [intOf]; omega⟩
            | exact ⟨i + 1, int_congrP (by omega), by omega, by omega, by rw [HBS.out, exC_snoc]; exact HO3.out, HB3.out⟩
            | (simp [intOf]; omega)
        · by_cases hf2 : x < 0
          · rw [if_pos (.inr hf2)] at HAV
            subst HAV
            have u9 : True := trivial
            have hA1 : Below wr.heap.size wr (wr.alloc (.cells #[.int .i64 (512 + q2), .int .i64 nv] 48)) := (Below.refl _ wr).alloc (Nat.le_refl _) _
            have HO1 := hide (own_below HR.out hA1)
            have HB1 := hide (bseq HB.out hA1)
            have hsz1 : X.heap.size ≤ (wr.alloc (.cells #[.int .i64 (512 + q2), .int .i64 nv] 48)).heap.size := HB1.out.size
            clear hA1
            go_wp2_with (first
              | (go_at_call 19; clear M1; refine (KW1.out _).mono ?_; rintro e w' ⟨rfl, hw⟩; obtain rfl := hw.symm)
              | (go_at_call 19; clear M2; refine (KW2.out _).mono ?_; rintro e w' ⟨rfl, hw⟩; obtain rfl := hw.symm)
              | (go_at_call 19; refine (KW3.out _).mono ?_; rintro e w' ⟨rfl, hw⟩; obtain rfl := hw.symm)
              | (at_builtin; refine wpList_append_own_at _ rfl _ _ 22 rfl X.heap.size 48 i0 (.agg #[.int .i64 0, .int .i64 0]) 2 16 Try.underlying22 hi0 hz0 hz1 hz2 rfl (by decide) u3 i (exC (brL xs i)) rfl HO1.out ⟨wr.heap.size, 0, none⟩ 1 1 [.int .i64 (512 + q2), .int .i64 nv] rfl rfl (cell_twoU wr _ _ _) (by simp [Value.oneCell']) (by unfold maxLen; omega) (by omega) hsz1 ?_
                 intro v1 x1 ho3 hg3 hnn hat; clear hnn hat
                 have HO3 := hide ho3
                 have HB3 := hide (bel_of_grownT HB1.out HO1.out hg3)
                 clear ho3 hg3))
            first | go_roundw | skip
            all_goals first
              | exact ⟨⟨i + 1, int_congrP (by omega), by omega, by omega, by rw [HBS.out, exC_snoc]; exact HO3.out, HB3.out⟩, by simp [intOf]; omega⟩
              | exact ⟨i + 1, int_congrP (by omega), by omega, by omega, by rw [HBS.out, exC_snoc]; exact HO3.out, HB3.out⟩
              | (simp [intOf]; omega)
          · rw [if_neg (by omega)] at HAV
            subst HAV
            have u9 : True := trivial
            have hA1 : Below wr.heap.size wr (wr.alloc (.cells #[.int .i64 (64 + q1), .int .i64 nv] 48)) := (Below.refl _ wr).alloc (Nat.le_refl _) _
            have HO1 := hide (own_below HR.out hA1)
            have HB1 := hide (bseq HB.out hA1)
            have hsz1 : X.heap.size ≤ (wr.alloc (.cells #[.int .i64 (64 + q1), .int .i64 nv] 48)).heap.size := HB1.out.size
            clear hA1
            go_wp2_with (first
              | (go_at_call 19; clear M1; refine (KW1.out _).mono ?_; rintro e w' ⟨rfl, hw⟩; obtain rfl := hw.symm)
              | (go_at_call 19; clear M2; refine (KW2.out _).mono ?_; rintro e w' ⟨rfl, hw⟩; obtain rfl := hw.symm)
              | (at_builtin; refine wpList_append_own_at _ rfl _ _ 22 rfl X.heap.size 48 i0 (.agg #[.int .i64 0, .int .i64 0]) 2 16 Try.underlying22 hi0 hz0 hz1 hz2 rfl (by decide) u3 i (exC (brL xs i)) rfl HO1.out ⟨wr.heap.size, 0, none⟩ 1 1 [.int .i64 (64 + q1), .int .i64 nv] rfl rfl (cell_twoU wr _ _ _) (by simp [Value.oneCell']) (by unfold maxLen; omega) (by omega) hsz1 ?_
                 intro v1 x1 ho3 hg3 hnn hat; clear hnn hat
                 have HO3 := hide ho3
                 have HB3 := hide (bel_of_grownT HB1.out HO1.out hg3)
                 clear ho3 hg3))
            first | go_roundw | skip
            all_goals first
              | exact ⟨⟨i + 1, int_congrP (by omega), by omega, by omega, by rw [HBS.out, exC_snoc]; exact HO3.out, HB3.out⟩, by simp [intOf]; omega⟩
              | exact ⟨i + 1, int_congrP (by omega), by omega, by omega, by rw [HBS.out, exC_snoc]; exact HO3.out, HB3.out⟩
              | (simp [intOf]; omega)
      · have iI5 : ¬ (i : Int) < 5 := by omega
        go_wp2
        go_ret
        exact ⟨_, rfl, i, him, hi5, hr.mono (by omega), bseq HA.out hB⟩
    · have iI : ¬ (i : Int) < (m : Int) := by omega
      go_wp2
      go_ret
      exact ⟨_, rfl, i, him, hi5, hr.mono (by omega), bseq HA.out hB⟩
end Go.Proofs.Ytafmpdljljmddaa
namespace Go.Proofs.Ytafmpdljljmddaa
open Go.RowKit Go.Shelf
set_option linter.unusedVariables false
set_option maxRecDepth 100000

/-- A row of records, each one's bytes somewhere. -/
def RowR (w : World) (v : Value) (rs : List (Nat × List Nat)) : Prop := ∃ a cap, v = .slice a rs.length cap ∧ ∀ (i : Nat) (r : Nat × List Nat), rs[i]? = some r → ∃ gr cur ad oc, a = some ⟨gr, 0, none⟩ ∧ w.heap[gr]? = some (.cells cur 44 (0, 0)) ∧ cur[i * 2]? = some (.int .i64 (r.1 : Int)) ∧ cur[i * 2 + 1]? = some (.slice ad r.2.length oc) ∧ Sl w ad r.2
theorem RowR.below {w w' : World} {v : Value} {rs : List (Nat × List Nat)} (h : RowR w v rs) (hB : Below w.heap.size w w') : RowR w' v rs := by
  obtain ⟨a, cap, rfl, hc⟩ := h
  refine ⟨a, cap, rfl, fun i r hr => ?_⟩
  obtain ⟨gr, cur, ad, oc, h1, h2, h3, h4, h5⟩ := hc i r hr
  exact ⟨gr, cur, ad, oc, h1, (hB.block gr (lt_of_heap h2)).trans h2, h3, h4, h5.below hB⟩
theorem RowC.rowR {w : World} {base : Nat} {v : Value} {rs : List (Nat × List Nat)} {Rs : List Nat} (h : RowC w base v rs Rs) (hb : ∀ r ∈ rs, ∀ y ∈ r.2, y < 256) : RowR w v rs := by
  by_cases h0 : rs = []
  · subst h0
    obtain ⟨a, cap, rfl⟩ := h.nil
    exact ⟨a, cap, rfl, fun i r hr => by simp at hr⟩
  · obtain ⟨gr, cap, cur, rfl, hg, _, hc⟩ := h.slice (by cases rs with | nil => exact absurd rfl h0 | cons x t => simp)
    refine ⟨some ⟨gr, 0, none⟩, cap, rfl, fun i r hr => ?_⟩
    have hi : i < rs.length := (List.getElem?_eq_some_iff.1 hr).1
    have hR : i < Rs.length := by rw [h.len]; exact hi
    obtain ⟨h1, h2⟩ := hc i (r, Rs[i]) (by rw [List.getElem?_zip_eq_some]; exact ⟨hr, List.getElem?_eq_getElem hR⟩)
    obtain ⟨o1, _⟩ := h.own i r Rs[i] hr (List.getElem?_eq_getElem hR)
    exact ⟨gr, cur, _, _, rfl, hg, h1, h2, own_old o1 (hb r (List.mem_of_getElem? hr))⟩
set_option maxHeartbeats 1000000 in
theorem usame_yes {w : World} {v u : Value} {rs : List (Nat × List Nat)} (h : RowR w v rs) (k : RowR w u rs) (hl : rs.length ≤ 4194304) (hb : ∀ r ∈ rs, r.2.length ≤ 4194304) :
    Calls Try.prog 11 #[v, u] w fun e w' => e = .returned (.bool true) ∧ Below w.heap.size w w' := by
  obtain ⟨a, ca, rfl, ha⟩ := h
  obtain ⟨b, cb, rfl, hbb⟩ := k
  obtain ⟨n, hn⟩ : ∃ n, rs.length = n := ⟨_, rfl⟩
  have hne : ((rs.length : Int) != (rs.length : Int)) = false := by simp
  rw [hn] at hne hl ⊢
  have HA := hide ha
  have HBB := hide hbb
  have HN := hide hn
  have HL := hide hb
  clear ha hbb hn hb
  go_enter Try.func11, Try.ntmps11
  go_wp2
  go_loopw [5] (fun iv wr => ∃ k q : Nat, k ≤ n ∧ iv = .int .i64 (k : Int) ∧ wr = w.drewN q) (fun iv _ => n - (intOf iv).toNat)
  case atStart => exact ⟨0, 0, by omega, rfl, rfl⟩
  case round =>
    obtain ⟨k, q, hk, rfl, hwr⟩ := hrel
    by_cases hlt : k < n
    · obtain ⟨r, hr⟩ : ∃ r, rs[k]? = some r := ⟨_, List.getElem?_eq_getElem (by rw [HN.out]; exact hlt)⟩
      obtain ⟨g1, cur1, d1, c1, rfl, hg1, x1, y1, z1⟩ := HA.out k r hr
      obtain ⟨g2, cur2, d2, c2, rfl, hg2, x2, y2, z2⟩ := HBB.out k r hr
      have hrl := HL.out r (List.mem_of_getElem? hr)
      obtain ⟨rx, old⟩ := r
      simp only at x1 y1 z1 x2 y2 z2 hrl
      have hki : (k : Int) < (n : Int) := by omega
      have i1 := index_recU g1 k n ca hlt wr
      have i2 := index_recU g2 k n cb hlt wr
      have p1 : wr.cell? ⟨g1, k * 2, none⟩ = some (.int .i64 (rx : Int)) := by rw [hwr]; exact (cell8 hg1 _).trans x1
      have p2 : wr.cell? ⟨g2, k * 2, none⟩ = some (.int .i64 (rx : Int)) := by rw [hwr]; exact (cell8 hg2 _).trans x2
      have q1 : wr.cell? ⟨g1, k * 2 + 1, none⟩ = some (.slice d1 old.length c1) := by rw [hwr]; exact (cell8 hg1 _).trans y1
      have q2 : wr.cell? ⟨g2, k * 2 + 1, none⟩ = some (.slice d2 old.length c2) := by rw [hwr]; exact (cell8 hg2 _).trans y2
      have KE := hide (fun W (e1 : Sl W d1 old) (e2 : Sl W d2 old) => eqBytes_any d1 d2 c1 c2 old old W e1 e2 (by omega))
      have Z1 := hide (show Sl wr d1 old by rw [hwr]; exact z1)
      have Z2 := hide (show Sl wr d2 old by rw [hwr]; exact z2)
      have HWR := hide hwr
      have hb1 : ((rx : Int) != (rx : Int)) = false := by simp
      have hdd : decide (old = old) = true := by simp
      rw [hdd] at KE
      generalize old.length = ln at *
      clear hg1 hg2 x1 y1 z1 x2 y2 z2 hr hdd hwr
      go_wp2_with (fail)
      go_quiet ((go_at_call 16; refine Calls.quiet_of (KE.out _ Z1.out Z2.out)))
      go_wp2_with (fail)
      go_roundw
      case rel => exact ⟨k + 1, q + nq, by omega, by go_num, by rw [HWR.out, World.drewN_drewN]⟩
      case measure => simp [intOf]; omega
    · have hkk : (n : Int) ≤ (k : Int) := by omega
      go_wp2_with (fail)
      go_ret
      exact ⟨rfl, below_drewN (Below.refl _ _) q⟩
theorem usame_no {w : World} {a b : Option Addr} {n k ca cb : Nat} (h : n ≠ k) : Calls Try.prog 11 #[.slice a n ca, .slice b k cb] w fun e w' => e = .returned (.bool false) ∧ w' = w := by
  have hne : ((n : Int) != (k : Int)) = true := by simp; omega
  go_enter Try.func11, Try.ntmps11
  go_wp2
  go_ret
  exact ⟨rfl, rfl⟩
end Go.Proofs.Ytafmpdljljmddaa
namespace Go.Proofs.Ytafmpdljljmddaa
open Go.RowKit Go.Shelf
set_option linter.unusedVariables false

/-- What the document's device stands for: of each line its contents, the durable one first; which of them was flushed last (-1: none). -/
structure RSt where
  n : Nat
  con : Nat → List (List Nat)
  mark : Nat → Int
  ops : Nat
  cnt : Nat
  gone : Bool
structure RSt.Ok (ρ : RSt) : Prop where
  pos : 1 ≤ ρ.n
  max : ρ.n ≤ 65536
  ne : ∀ i, i < ρ.n → ρ.con i ≠ []
  few : ∀ i, i < ρ.n → (ρ.con i).length ≤ 1400000000001
  len : ∀ i c, i < ρ.n → c ∈ ρ.con i → c.length = 64
  byte : ∀ i c, i < ρ.n → c ∈ ρ.con i → ∀ x ∈ c, x < 256
/-- Where its parts lie. -/
structure RLay where
  lb : Nat
  lc : Nat
  ab : Nat → Nat
  ao : Nat → Nat
  ac : Nat → Nat
  cb : Nat → Nat → Nat
  av : Value
def refC (M : RLay) (ρ : RSt) : Array Value := #[.int .i64 ((64 * ρ.n : Nat) : Int), .slice (some ⟨M.lb, 0, none⟩) ρ.n M.lc, .int .i64 (ρ.ops : Int), M.av, .int .i64 (ρ.cnt : Int), .bool ρ.gone]
/-- Its blocks. -/
def RFoot (b : Nat) (M : RLay) (ρ : RSt) (k : Nat) : Prop := k = b ∨ k = M.lb ∨ (∃ i, i < ρ.n ∧ k = M.ab i) ∨ ∃ i j, i < ρ.n ∧ j < (ρ.con i).length ∧ k = M.cb i j
section
variable {w w' : World} {b : Nat} {M : RLay} {ρ : RSt}
end
theorem index_rrow (g o i len cap : Nat) (hi : i < len) (w : World) : (Instr.indexAt 42 (.slice (some ⟨g, o, none⟩) len cap) (.int .i64 (i : Int))).run Try.prog w = .ok (.pointer (some ⟨g, o + i, none⟩)) w := by
  have h := index_at (t := 42) (e := 33) (sz := 1) Try.underlying42 (by kernel_rfl) g o i len cap hi w
  rwa [Nat.mul_one] at h
/-- As a device stands for it. -/
def rOf (σ : St) (mk : Nat → Int) : RSt := ⟨σ.n, fun i => σ.past i ++ [σ.line i], mk, σ.ops, σ.cnt, σ.off⟩
theorem rOf_ok {σ : St} (h : σ.Ok) (mk : Nat → Int) : (rOf σ mk).Ok where
  pos := h.pos
  max := h.max
  ne := fun i hi => by simp [rOf]
  few := fun i hi => by
    have := h.few i
    have := h.opsm
    simp [rOf]
    omega
  len := fun i c hi hc => by
    rcases List.mem_append.1 hc with h1 | h1
    · exact h.clen i c h1
    · rw [List.mem_singleton.1 h1]; exact line_len h hi
  byte := fun i c hi hc => by
    rcases List.mem_append.1 hc with h1 | h1
    · exact h.cbyte i c h1
    · rw [List.mem_singleton.1 h1]; exact fun x hx => h.byte x (line_mem hx)
end Go.Proofs.Ytafmpdljljmddaa
namespace Go.Proofs.Ytafmpdljljmddaa
open Go.RowKit Go.Shelf
set_option linter.unusedVariables false

theorem infoB8 : ∃ i, Try.prog.info? 5 = some i ∧ i.zero = some (.int .u8 0) ∧ i.size = 1 ∧ i.bytes = 1 := by
  have h : (Try.prog.info? 5).map (fun i => (i.zero, i.size, i.bytes)) = some (some (.int .u8 0), 1, 1) := by kernel_rfl
  obtain ⟨i, h1, h2⟩ := Option.map_eq_some_iff.1 h
  simp only [Prod.mk.injEq] at h2
  exact ⟨i, h1, h2.1, h2.2.1, h2.2.2⟩
theorem index_b8 (g i len cap : Nat) (hi : i < len) (w : World) : (Instr.indexAt 33 (.slice (some ⟨g, 0, none⟩) len cap) (.int .i64 (i : Int))).run Try.prog w = .ok (.pointer (some ⟨g, i, none⟩)) w := by
  have h := index_at (t := 33) (e := 5) (sz := 1) Try.underlying33 (by kernel_rfl) g 0 i len cap hi w
  rwa [Nat.mul_one, Nat.zero_add] at h
section
variable {w : World} {b : Nat} {M : RLay} {σ : St} {mk : Nat → Int}
end
end Go.Proofs.Ytafmpdljljmddaa
namespace Go.Proofs.Ytafmpdljljmddaa
open Go.RowKit Go.Shelf
set_option linter.unusedVariables false

theorem wpAnyH_doS {P : Program} {ops : Array Oper} {Q : Exit → Act → World → Prop} {md : Region.Mode} {S : World → Prop} {i : Nat} {o : Oper} {fuel : Nat} {listed : Array Bool} {a : Act} {w : World} (hr : Region.ready md ops listed = [i]) (ho : ops[i]? = some o) (hw : Region.wanted o (yielded ops a.tmps) = true)
    (h : ∀ K' : Act → World → Prop, Shut (∀ a w, S w → wpAnyH P md ops Q S fuel (listed.setIfInBounds i true) a w → K' a w) → Oper.wp P o a w K' Q) : wpAnyH P md ops Q S (fuel + 1) listed a w := by
  refine wpAnyH_ready (rs := [i]) hr (by simp) (AllReadyH.cons ho (fun K hK => ?_) AllReadyH.nil)
  rw [if_pos hw]
  exact h K (fun a w hs hq => hK a w hs (fun _ => hq))
/-- May a device have that size? -/
def fitS (x : Int) : Prop := 64 ≤ x ∧ x ≤ 4194304 ∧ x % 64 = 0
theorem slice_mid (g o d e n cap : Nat) (hd : d + e ≤ n) (he : 1 ≤ e) (hn : n ≤ cap) (hsm : n ≤ 4194304) (w : World) : (Instr.sliceAt 33 (.slice (some ⟨g, o, none⟩) n cap) (some (.int .i64 (d : Int))) (some (.int .i64 ((d : Int) + (e : Int)))) none).run Try.prog w = .ok (.slice (some ⟨g, o + d, none⟩) e (cap - d)) w := by
  obtain ⟨it, h1, h2⟩ := info_of (t := 5) (n := 1) (by kernel_rfl)
  have hu : Try.prog.underlying 33 = some (.slice 5) := by kernel_rfl
  have c1 : (0 : Int) ≤ (d : Int) + (e : Int) ∧ (d : Int) + (e : Int) ≤ (cap : Int) := by omega
  have c2 : (0 : Int) ≤ (d : Int) ∧ (d : Int) ≤ (d : Int) + (e : Int) := by omega
  have e1 : ((d : Int) + (e : Int)).toNat = d + e := by omega
  have e2 : d + e - d = e := by omega
  have e3 : ¬ cap = d := by omega
  simp [Instr.sliceAt, Instr.slice, Sem.run_bind, run_underlying hu, Instr.sliceBounds, Instr.sliceBound, asIntOf, sizeOf, typeInfo, h1, h2, Addr.add_mid, c1, c2, e1, e2, e3]
end Go.Proofs.Ytafmpdljljmddaa
namespace Go.Proofs.Ytafmpdljljmddaa
open Go.RowKit Go.Shelf
set_option linter.unusedVariables false
set_option maxRecDepth 100000

/-- The cells of records whose bytes lie at blocks of their own. -/
def oldC (B : List Nat) (x : Int × Int) (C : Nat) : List Value := [.int .i64 x.1, .slice (some ⟨C, 0, none⟩) (oldOf B x).length (oldOf B x).length]
structure OldR (w : World) (base : Nat) (v : Value) (B : List Nat) (xs : List (Int × Int)) (Cs : List Nat) : Prop where
  len : Cs.length = xs.length
  row : w.ownsRow base 44 2 v xs.length ((xs.zip Cs).flatMap (fun p => oldC B p.1 p.2))
  own : ∀ (i : Nat) (x : Int × Int) (C : Nat), xs[i]? = some x → Cs[i]? = some C → OwnB w C (oldOf B x) ∧ base ≤ C
theorem oldC_get {B : List Nat} : ∀ (l : List ((Int × Int) × Nat)) (i : Nat) (p : (Int × Int) × Nat), l[i]? = some p → (l.flatMap (fun p => oldC B p.1 p.2))[i * 2]? = some (.int .i64 p.1.1) ∧ (l.flatMap (fun p => oldC B p.1 p.2))[i * 2 + 1]? = some (.slice (some ⟨p.2, 0, none⟩) (oldOf B p.1).length (oldOf B p.1).length)
  | [], i, p, h => by simp at h
  | y :: t, 0, p, h => by simp at h; subst h; exact ⟨rfl, rfl⟩
  | y :: t, i + 1, p, h => by
    have h1 := oldC_get (B := B) t i p (by simpa using h)
    have e : ((y :: t).flatMap (fun p => oldC B p.1 p.2)) = .int .i64 y.1.1 :: .slice (some ⟨y.2, 0, none⟩) (oldOf B y.1).length (oldOf B y.1).length :: t.flatMap (fun p => oldC B p.1 p.2) := rfl
    rw [e, show (i + 1) * 2 = i * 2 + 1 + 1 by omega]
    exact h1
theorem OldR.rowR {w : World} {base : Nat} {v : Value} {B : List Nat} {xs : List (Int × Int)} {Cs : List Nat} (h : OldR w base v B xs Cs) (hb : ∀ y ∈ B, y < 256) (h0 : ∀ x ∈ xs, 0 ≤ x.1) : RowR w v (recL B xs) := by
  have hl := recL_len B xs
  rcases h.row.2 with ⟨rfl, e⟩ | ⟨g, cp, cur, rfl, h1, h2, h3, h4, h5, h6⟩
  · refine ⟨none, 0, by rw [hl, e], fun i r hr => ?_⟩
    have := (List.getElem?_eq_some_iff.1 hr).1
    omega
  · refine ⟨some ⟨g, 0, none⟩, cp, by rw [hl], fun i r hr => ?_⟩
    have hi : i < xs.length := by have := (List.getElem?_eq_some_iff.1 hr).1; omega
    have hC : i < Cs.length := by rw [h.len]; exact hi
    have hx : xs[i]? = some xs[i] := List.getElem?_eq_getElem hi
    have hCC : Cs[i]? = some Cs[i] := List.getElem?_eq_getElem hC
    have hr2 : r = (xs[i].1.toNat, oldOf B xs[i]) := by
      unfold recL at hr
      rw [List.getElem?_map, hx] at hr
      simpa using hr.symm
    obtain ⟨c0, c1⟩ := oldC_get (B := B) (xs.zip Cs) i (xs[i], Cs[i]) (by rw [List.getElem?_zip_eq_some]; exact ⟨hx, hCC⟩)
    rw [← h6, List.getElem?_take, if_pos (by omega), Array.getElem?_toList] at c0 c1
    have hp := h0 xs[i] (List.getElem_mem hi)
    subst hr2
    refine ⟨g, cur, _, _, rfl, h2, ?_, c1, (h.own i _ _ hx hCC).1.sl ?_⟩
    · rw [c0]
      simp only
      rw [show ((xs[i].1.toNat : Nat) : Int) = xs[i].1 by omega]
    · intro y hy
      unfold oldOf at hy
      exact hb y (List.mem_of_mem_drop (List.mem_of_mem_take hy))
theorem recs_info : ∃ i, Try.prog.info? 44 = some i ∧ i.zero = some (.agg #[.int .i64 0, .slice none 0 0]) ∧ i.size = 2 ∧ i.bytes = 32 := infoRec
set_option maxHeartbeats 2000000 in
theorem uolds_own {w : World} {R m ic c : Nat} {B : List Nat} {ea : Option Addr} {xs : List (Int × Int)} (hO : OwnB w R B) (hBl : B.length = 1024) (hic : 1024 ≤ ic) (hb : ∀ y ∈ B, y < 256) (h : SlE w ea xs) (hm : xs.length = m) (hm5 : m ≤ 1000) (hx : ∀ x ∈ xs, 0 ≤ x.1 ∧ 1 ≤ x.2 ∧ x.1 + x.2 ≤ 1024) :
    Calls Try.prog 10 #[.slice (some ⟨R, 0, none⟩) 1024 ic, .slice ea m c] w fun e w' => ∃ v, e = .returned v ∧ (∃ Cs, OldR w' w.heap.size v B xs Cs) ∧ Below w.heap.size w w' := by
  obtain ⟨i0, hi0, hz0, hz1, hz2⟩ := infoRec
  have HO := hide hO
  have HBL := hide hBl
  have HB8 := hide hb
  have HH := hide h
  have HM := hide hm
  have HX := hide hx
  clear hO hBl hb h hm hx
  go_enter Try.func10, Try.ntmps10
  go_wp2
  go_loopw [5, 6] (fun lv iv wr => ∃ (i : Nat) (Cs : List Nat), iv = .int .i64 (i : Int) ∧ i ≤ m ∧ OldR wr w.heap.size lv B (xs.take i) Cs ∧ Below w.heap.size w wr) (fun _ iv _ => (m - (intOf iv).toNat))
  case atStart => exact ⟨0, [], rfl, Nat.zero_le _, ⟨rfl, ⟨rfl, .inl ⟨rfl, rfl⟩⟩, fun i x C h1 => by simp at h1⟩, Below.refl _ _⟩
  case round =>
    obtain ⟨i, Cs, rfl, him, hrow, hBw⟩ := hrel
    by_cases hlt : i < m
    · have iI : (i : Int) < (m : Int) := by omega
      obtain ⟨xx, hxx⟩ : ∃ x, xs[i]? = some x := ⟨_, List.getElem?_eq_getElem (by rw [HM.out]; exact hlt)⟩
      have hts : xs.take (i + 1) = xs.take i ++ [xx] := by rw [List.take_add_one, hxx]; rfl
      obtain ⟨b1, b2, b3⟩ := HX.out xx (List.mem_of_getElem? hxx)
      obtain ⟨x, y⟩ := xx
      simp only at b1 b2 b3
      obtain ⟨xn, rfl⟩ : ∃ xn : Nat, x = (xn : Int) := ⟨x.toNat, by omega⟩
      obtain ⟨yn, rfl⟩ : ∃ yn : Nat, y = (yn : Int) := ⟨y.toNat, by omega⟩
      have eold : oldOf B ((xn : Int), (yn : Int)) = (B.drop xn).take yn := rfl
      have hol : ((B.drop xn).take yn).length = yn := by rw [List.length_take, List.length_drop, HBL.out]; omega
      obtain ⟨g, o, cc, rfl, hg, hcc⟩ : ∃ g o cc, ea = some ⟨g, o, none⟩ ∧ w.heap[g]? = some (.cells cc 48 (0, 0)) ∧ ∀ (i : Nat) (x l : Int), xs[i]? = some (x, l) → cc[o + i * 2]? = some (.int .i64 x) ∧ cc[o + i * 2 + 1]? = some (.int .i64 l) := by
        rcases HH.out.2 with e | ⟨g, o, cc, h1, h2, h3⟩
        · rw [e] at hxx; simp at hxx
        · exact ⟨g, o, cc, h1, h2, h3⟩
      have hgr : wr.heap[g]? = some (.cells cc 48 (0, 0)) := (hBw.block g (lt_of_heap hg)).trans hg
      have hgl := lt_of_heap hgr
      have s0 : wr.drew.cell? ⟨g, o + i * 2, none⟩ = some (.int .i64 (xn : Int)) ∧ wr.drew.cell? ⟨g, o + i * 2 + 1, none⟩ = some (.int .i64 (yn : Int)) := ⟨(cell8 (w := wr.drew) hgr _).trans (hcc i _ _ hxx).1, (cell8 (w := wr.drew) hgr _).trans (hcc i _ _ hxx).2⟩
      have S0 := hide s0
      have HGR := hide hgr
      have IX := hide (fun X => index_ext g o i m c hlt X)
      have SLc : Hid (∀ X, (Instr.sliceAt 33 (.slice (some ⟨R, 0, none⟩) 1024 ic) (some (.int .i64 (xn : Int))) (some (.int .i64 ((xn : Int) + (yn : Int)))) none).run Try.prog X = .ok (.slice (some ⟨R, xn, none⟩) yn (ic - xn)) X) := fun X => by have h := slice_mid R 0 xn yn 1024 ic (by omega) (by omega) hic (by omega) X; rwa [Nat.zero_add] at h
      have WM : Hid (IntKind.i64.wrap ((xn : Int) + (yn : Int)) = (xn : Int) + (yn : Int)) := by show IntKind.i64.wrap _ = _; rw [IntKind.wrap_i64]; omega
      have hOr : OwnB wr R B := HO.out.below hBw HO.out.lt
      have hsw : Sl wr.drew (some ⟨R, xn, none⟩) ((B.drop xn).take yn) := .inr ⟨R, xn, rfl, lt_of_heap hOr, fun q z hz => by
        rw [List.getElem?_take] at hz
        split at hz
        · rw [List.getElem?_drop] at hz
          exact ⟨hOr.cell _ _ hz, HB8.out z (List.mem_of_getElem? hz)⟩
        · cases hz⟩
      have kc := copyBytes_any (some ⟨R, xn, none⟩) (ic - xn) ((B.drop xn).take yn) wr.drew hsw (by rw [hol]; omega)
      rw [hol] at kc
      generalize (B.drop xn).take yn = old at *
      have KC := hide kc
      have HROW := hide hrow
      have HBW := hide hBw
      have HTS := hide hts
      have HOL := hide hol
      have HEO := hide eold
      have hil : (xs.take i).length = i := by rw [List.length_take, HM.out]; omega
      have HIL := hide hil
      have hCl := hrow.len
      rw [hil] at hCl
      clear kc hrow hBw hts hol eold hsw hOr hgr hcc hxx s0 hil hg
      go_wp2_with (fail)
      try go_frame
      refine wp_region_held_drew (S := fun Y => Y.cell? ⟨g, o + i * 2, none⟩ = some (.int .i64 (xn : Int)) ∧ Y.cell? ⟨g, o + i * 2 + 1, none⟩ = some (.int .i64 (yn : Int))) (by kernel_rfl) S0.out (fun hS => ?_)
      refine wpAnyH_take (i := 0) (v := u5) rfl (by kernel_rfl) (by kernel_rfl) (by kernel_rfl) (fun _ _ _ h => h) (Or.inl ⟨by kernel_rfl, fun w' hw => by (go_simp)⟩) hS ?_
      refine wpAnyH_take (i := 1) (v := (.slice (some ⟨g, o, none⟩) m c)) rfl (by kernel_rfl) (by kernel_rfl) (by kernel_rfl) (fun _ _ _ h => h) (Or.inl ⟨by kernel_rfl, fun w' hw => by (go_simp)⟩) hS ?_
      refine wpAnyH_take (i := 2) (v := (.int .i64 (i : Int))) rfl (by kernel_rfl) (by kernel_rfl) (by kernel_rfl) (fun _ _ _ h => h) (Or.inl ⟨by kernel_rfl, fun w' hw => by (go_simp)⟩) hS ?_
      refine wpAnyH_take (i := 3) (v := (.pointer (some ⟨g, o + i * 2, none⟩))) rfl (by kernel_rfl) (by kernel_rfl) (by kernel_rfl) (fun _ _ _ h => h) (Or.inl ⟨by kernel_rfl, fun w' hw => by (have e := IX.out w'; go_simp)⟩) hS ?_
      refine wpAnyH_take (i := 4) (v := (.pointer (some ⟨g, o + i * 2, none⟩))) rfl (by kernel_rfl) (by kernel_rfl) (by kernel_rfl) (fun _ _ _ h => h) (Or.inl ⟨by kernel_rfl, fun w' hw => by (go_simp)⟩) hS ?_
      refine wpAnyH_take (i := 5) (v := (.int .i64 (xn : Int))) rfl (by kernel_rfl) (by kernel_rfl) (by kernel_rfl) (fun _ _ _ h => h) (Or.inl ⟨by kernel_rfl, fun w' hw => by (have e0 := hw.1; go_simp)⟩) hS ?_
      refine wpAnyH_take (i := 6) (v := (.slice (some ⟨R, 0, none⟩) 1024 ic)) rfl (by kernel_rfl) (by kernel_rfl) (by kernel_rfl) (fun _ _ _ h => h) (Or.inl ⟨by kernel_rfl, fun w' hw => by (go_simp)⟩) hS ?_
      refine wpAnyH_take (i := 7) (v := (.slice (some ⟨g, o, none⟩) m c)) rfl (by kernel_rfl) (by kernel_rfl) (by kernel_rfl) (fun _ _ _ h => h) (Or.inl ⟨by kernel_rfl, fun w' hw => by (go_simp)⟩) hS ?_
      refine wpAnyH_take (i := 8) (v := (.int .i64 (i : Int))) rfl (by kernel_rfl) (by kernel_rfl) (by kernel_rfl) (fun _ _ _ h => h) (Or.inl ⟨by kernel_rfl, fun w' hw => by (go_simp)⟩) hS ?_
      refine wpAnyH_take (i := 9) (v := (.pointer (some ⟨g, o + i * 2, none⟩))) rfl (by kernel_rfl) (by kernel_rfl) (by kernel_rfl) (fun _ _ _ h => h) (Or.inl ⟨by kernel_rfl, fun w' hw => by (have e := IX.out w'; go_simp)⟩) hS ?_
      refine wpAnyH_take (i := 10) (v := (.pointer (some ⟨g, o + i * 2, none⟩))) rfl (by kernel_rfl) (by kernel_rfl) (by kernel_rfl) (fun _ _ _ h => h) (Or.inl ⟨by kernel_rfl, fun w' hw => by (go_simp)⟩) hS ?_
      refine wpAnyH_take (i := 11) (v := (.int .i64 (xn : Int))) rfl (by kernel_rfl) (by kernel_rfl) (by kernel_rfl) (fun _ _ _ h => h) (Or.inl ⟨by kernel_rfl, fun w' hw => by (have e0 := hw.1; go_simp)⟩) hS ?_
      refine wpAnyH_take (i := 12) (v := (.slice (some ⟨g, o, none⟩) m c)) rfl (by kernel_rfl) (by kernel_rfl) (by kernel_rfl) (fun _ _ _ h => h) (Or.inl ⟨by kernel_rfl, fun w' hw => by (go_simp)⟩) hS ?_
      refine wpAnyH_take (i := 13) (v := (.int .i64 (i : Int))) rfl (by kernel_rfl) (by kernel_rfl) (by kernel_rfl) (fun _ _ _ h => h) (Or.inl ⟨by kernel_rfl, fun w' hw => by (go_simp)⟩) hS ?_
      refine wpAnyH_take (i := 14) (v := (.pointer (some ⟨g, o + i * 2, none⟩))) rfl (by kernel_rfl) (by kernel_rfl) (by kernel_rfl) (fun _ _ _ h => h) (Or.inl ⟨by kernel_rfl, fun w' hw => by (have e := IX.out w'; go_simp)⟩) hS ?_
      refine wpAnyH_take (i := 15) (v := (.pointer (some ⟨g, o + i * 2, none⟩))) rfl (by kernel_rfl) (by kernel_rfl) (by kernel_rfl) (fun _ _ _ h => h) (Or.inl ⟨by kernel_rfl, fun w' hw => by (go_simp)⟩) hS ?_
      refine wpAnyH_take (i := 16) (v := (.int .i64 (xn : Int))) rfl (by kernel_rfl) (by kernel_rfl) (by kernel_rfl) (fun _ _ _ h => h) (Or.inl ⟨by kernel_rfl, fun w' hw => by (have e0 := hw.1; go_simp)⟩) hS ?_
      refine wpAnyH_take (i := 17) (v := (.slice (some ⟨g, o, none⟩) m c)) rfl (by kernel_rfl) (by kernel_rfl) (by kernel_rfl) (fun _ _ _ h => h) (Or.inl ⟨by kernel_rfl, fun w' hw => by (go_simp)⟩) hS ?_
      refine wpAnyH_take (i := 18) (v := (.int .i64 (i : Int))) rfl (by kernel_rfl) (by kernel_rfl) (by kernel_rfl) (fun _ _ _ h => h) (Or.inl ⟨by kernel_rfl, fun w' hw => by (go_simp)⟩) hS ?_
      refine wpAnyH_take (i := 19) (v := (.pointer (some ⟨g, o + i * 2, none⟩))) rfl (by kernel_rfl) (by kernel_rfl) (by kernel_rfl) (fun _ _ _ h => h) (Or.inl ⟨by kernel_rfl, fun w' hw => by (have e := IX.out w'; go_simp)⟩) hS ?_
      refine wpAnyH_take (i := 20) (v := (.pointer (some ⟨g, o + i * 2 + 1, none⟩))) rfl (by kernel_rfl) (by kernel_rfl) (by kernel_rfl) (fun _ _ _ h => h) (Or.inl ⟨by kernel_rfl, fun w' hw => by (go_simp)⟩) hS ?_
      refine wpAnyH_take (i := 21) (v := (.int .i64 (yn : Int))) rfl (by kernel_rfl) (by kernel_rfl) (by kernel_rfl) (fun _ _ _ h => h) (Or.inl ⟨by kernel_rfl, fun w' hw => by (have e0 := hw.2; go_simp)⟩) hS ?_
      refine wpAnyH_take (i := 22) (v := (.int .i64 ((xn : Int) + (yn : Int)))) rfl (by kernel_rfl) (by kernel_rfl) (by kernel_rfl) (fun _ _ _ h => h) (Or.inl ⟨by kernel_rfl, fun w' hw => by (have wm := WM.out; go_simp)⟩) hS ?_
      refine wpAnyH_take (i := 23) (v := (.slice (some ⟨R, xn, none⟩) yn (ic - xn))) rfl (by kernel_rfl) (by kernel_rfl) (by kernel_rfl) (fun _ _ _ h => h) (Or.inl ⟨by kernel_rfl, fun w' hw => by (have e := SLc.out w'; go_simp)⟩) hS ?_
      refine wpAnyH_goS (i := 24) (by kernel_rfl) rfl (by kernel_rfl) (fun K hK => ?_)
      go_wp2_with (go_at_call 30; refine (KC.out).mono ?_; rintro e W1 ⟨rfl, ho1, hb1⟩; replace ho1 : OwnB W1 wr.heap.size old := ho1; have HO1 := hide ho1; have HB1 := hide (bseq (Below.refl _ wr).drew hb1 : Below wr.heap.size wr W1); clear ho1 hb1)
      have hS1 := (show W1.cell? ⟨g, o + i * 2, none⟩ = some (.int .i64 (xn : Int)) ∧ W1.cell? ⟨g, o + i * 2 + 1, none⟩ = some (.int .i64 (yn : Int)) from ⟨(HB1.out.cell (p := ⟨g, o + i * 2, none⟩) hgl).trans S0.out.1, (HB1.out.cell (p := ⟨g, o + i * 2 + 1, none⟩) hgl).trans S0.out.2⟩)
      refine hK.out _ _ hS1 ?_
      clear hK K
      refine wpAnyH_take (i := 25) (v := (.agg #[.int .i64 (xn : Int), .slice (some ⟨wr.heap.size, 0, none⟩) yn yn])) rfl (by kernel_rfl) (by kernel_rfl) (by kernel_rfl) (fun _ _ _ h => h) (Or.inl ⟨by kernel_rfl, fun w' hw => by (go_simp)⟩) hS1 ?_
      have HGC0 := hide ((HB1.out.block g hgl).trans HGR.out)
      have hgl1 : g < W1.heap.size := Nat.lt_of_lt_of_le hgl HB1.out.size
      have hA1 : Below W1.heap.size W1 (W1.alloc (.cells #[.int .i64 (xn : Int), .slice (some ⟨wr.heap.size, 0, none⟩) yn yn] 44)) := (Below.refl _ W1).alloc (Nat.le_refl _) _
      refine wpAnyH_goS (i := 26) (by kernel_rfl) rfl (by kernel_rfl) (fun K hK => ?_)
      go_wp2_with (fail)
      have hS2 : (W1.alloc (.cells #[.int .i64 (xn : Int), .slice (some ⟨wr.heap.size, 0, none⟩) yn yn] 44)).cell? ⟨g, o + i * 2, none⟩ = some (.int .i64 (xn : Int)) ∧ (W1.alloc (.cells #[.int .i64 (xn : Int), .slice (some ⟨wr.heap.size, 0, none⟩) yn yn] 44)).cell? ⟨g, o + i * 2 + 1, none⟩ = some (.int .i64 (yn : Int)) := ⟨(hA1.cell (p := ⟨g, o + i * 2, none⟩) hgl1).trans hS1.1, (hA1.cell (p := ⟨g, o + i * 2 + 1, none⟩) hgl1).trans hS1.2⟩
      refine hK.out _ _ hS2 ?_
      clear hK K
      have HB2 := hide (bseq HB1.out hA1)
      have HGC := hide ((hA1.block g hgl1).trans HGC0.out)
      have hrow2 := own_below HROW.out.row HB2.out
      rw [HIL.out] at hrow2
      have HR2 := hide hrow2
      have HBW2 := hide (bseq HBW.out HB2.out)
      have hsz2 : w.heap.size ≤ (W1.alloc (.cells #[.int .i64 (xn : Int), .slice (some ⟨wr.heap.size, 0, none⟩) yn yn] 44)).heap.size := HBW2.out.size
      have HOA := hide (HO1.out.below hA1 HO1.out.lt)
      clear hrow2 hA1
      refine wpAnyH_goS (i := 27) (by kernel_rfl) rfl (by kernel_rfl) (fun K hK => ?_)
      refine wp_append_at (.tmp 13) (.tmp 39) 37 (by kernel_rfl) w.heap.size 44 i0 (.agg #[.int .i64 0, .slice none 0 0]) 2 32 Try.underlying37 hi0 hz0 hz1 hz2 rfl (by decide) u5 i (((xs.take i).zip Cs).flatMap (fun p => oldC B p.1 p.2)) (by kernel_rfl) HR2.out ⟨W1.heap.size, 0, none⟩ 1 1 [.int .i64 (xn : Int), .slice (some ⟨wr.heap.size, 0, none⟩) yn yn] (by kernel_rfl) rfl (cell_twoU W1 _ _ _) (by simp [Value.oneCell']) (by unfold maxLen; omega) (by omega) hsz2 ?_
      intro v1 x1 ho3 hg3 _ _
      have HO3 := hide ho3
      have HG3 := hide hg3
      clear ho3 hg3
      have hbx := bel_of_grownT HBW2.out HR2.out HG3.out
      have hkeep : ∀ (k : Nat) (cs : Array Value) (t : TypeId) (f : Nat × Nat), (W1.alloc (.cells #[.int .i64 (xn : Int), .slice (some ⟨wr.heap.size, 0, none⟩) yn yn] 44)).heap[k]? = some (.cells cs t f) → t ≠ 44 → x1.heap[k]? = some (.cells cs t f) := fun k cs t f hk ht => by
        refine (HG3.out.block k (lt_of_heap hk) (fun e => ?_)).trans hk
        obtain ⟨c', hc'⟩ := own_type HR2.out e.symm
        exact ne_ty hk hc' ht rfl
      have hge := hS2
      have hS3 : x1.cell? ⟨g, o + i * 2, none⟩ = some (.int .i64 (xn : Int)) ∧ x1.cell? ⟨g, o + i * 2 + 1, none⟩ = some (.int .i64 (yn : Int)) := by
        have hgx : x1.heap[g]? = (W1.alloc (.cells #[.int .i64 (xn : Int), .slice (some ⟨wr.heap.size, 0, none⟩) yn yn] 44)).heap[g]? := by
          have hga := HGC.out
          rw [hkeep g _ _ _ hga (by decide), hga]
        exact ⟨(World.cell?_of_block (a := ⟨g, o + i * 2, none⟩) hgx).trans hge.1, (World.cell?_of_block (a := ⟨g, o + i * 2 + 1, none⟩) hgx).trans hge.2⟩
      refine hK.out _ _ hS3 ?_
      clear hK K
      have yr : OldR x1 w.heap.size v1 B (xs.take (i + 1)) (Cs ++ [wr.heap.size]) := by
        rw [HTS.out]
        refine ⟨by rw [List.length_append, List.length_append, hCl, HIL.out]; rfl, ?_, ?_⟩
        · have h7 := HO3.out
          rw [List.length_append, HIL.out, List.zip_append (by rw [hCl, HIL.out]), List.flatMap_append]
          have e9 : (([((xn : Int), (yn : Int))] : List (Int × Int)).zip [wr.heap.size]).flatMap (fun p => oldC B p.1 p.2) = [.int .i64 (xn : Int), .slice (some ⟨wr.heap.size, 0, none⟩) yn yn] := by
            show oldC B ((xn : Int), (yn : Int)) wr.heap.size ++ [] = _
            unfold oldC
            rw [HEO.out, HOL.out]
            rfl
          rw [e9]
          exact h7
        · intro k xk C hk hC
          by_cases hki : k < i
          · rw [List.getElem?_append_left (by rw [HIL.out]; exact hki)] at hk
            rw [List.getElem?_append_left (by rw [hCl]; exact hki)] at hC
            obtain ⟨h8, h8b⟩ := HROW.out.own k xk C hk hC
            exact ⟨hkeep C _ _ _ ((HB2.out.block C h8.lt).trans h8) (by decide), h8b⟩
          · have hk2 : k = i := by
              have := (List.getElem?_eq_some_iff.1 hC).1
              rw [List.length_append, hCl] at this
              simp at this
              omega
            subst hk2
            rw [List.getElem?_append_right (by rw [HIL.out]; exact Nat.le_refl _), HIL.out, Nat.sub_self] at hk
            rw [List.getElem?_append_right (by rw [hCl]; exact Nat.le_refl _), hCl, Nat.sub_self] at hC
            simp at hk hC
            subst hk hC
            rw [HEO.out]
            exact ⟨hkeep _ _ _ _ HOA.out (by decide), HBW.out.size⟩
      have YR := hide yr
      have YB := hide hbx
      clear yr hbx hkeep hge
      refine wpAnyH_take (i := 28) (v := v1) rfl (by kernel_rfl) (by kernel_rfl) (by kernel_rfl) (fun _ _ _ h => h) (Or.inl ⟨by kernel_rfl, fun w' hw => by (go_simp)⟩) hS3 ?_
      refine wpAnyH_done (by kernel_rfl) ?_ _
      simp only [Act.put, List.getElem_toArray, List.getElem_cons_zero, List.getElem_cons_succ, List.setIfInBounds_toArray, List.set_cons_zero, List.set_cons_succ]
      go_wp2_with (fail)
      go_roundw
      case rel => exact ⟨i + 1, Cs ++ [wr.heap.size], int_congrP (by omega), by omega, YR.out, YB.out⟩
      case measure => simp [intOf]; omega
    · have iI : ¬ (i : Int) < (m : Int) := by omega
      have e : xs.take i = xs := List.take_of_length_le (by rw [HM.out]; omega)
      rw [e] at hrow
      go_wp2_with (fail)
      go_ret
      exact ⟨_, rfl, ⟨_, hrow⟩, hBw⟩
theorem uolds_any {w : World} {R m ic c : Nat} {B : List Nat} {ea : Option Addr} {xs : List (Int × Int)} (hO : OwnB w R B) (hBl : B.length = 1024) (hic : 1024 ≤ ic) (hb : ∀ y ∈ B, y < 256) (h : SlE w ea xs) (hm : xs.length = m) (hm5 : m ≤ 1000) (hx : ∀ x ∈ xs, 0 ≤ x.1 ∧ 1 ≤ x.2 ∧ x.1 + x.2 ≤ 1024) :
    Calls Try.prog 10 #[.slice (some ⟨R, 0, none⟩) 1024 ic, .slice ea m c] w fun e w' => ∃ v, e = .returned v ∧ RowR w' v (recL B xs) ∧ Below w.heap.size w w' :=
  (uolds_own hO hBl hic hb h hm hm5 hx).mono (fun e w' ⟨v, h1, ⟨Cs, h2⟩, h3⟩ => ⟨v, h1, h2.rowR hb (fun x hxx => (hx x hxx).1), h3⟩)
theorem OldR.keep {w w' : World} {base : Nat} {v : Value} {B : List Nat} {xs : List (Int × Int)} {Cs : List Nat} (h : OldR w base v B xs Cs) (hk : ∀ g, base ≤ g → g < w.heap.size → w'.heap[g]? = w.heap[g]?) : OldR w' base v B xs Cs := by
  refine ⟨h.len, ⟨h.row.1, ?_⟩, fun i x C h1 h2 => ?_⟩
  · rcases h.row.2 with h2 | ⟨g, cap, cur, hv, hg, hh, r⟩
    · exact .inl h2
    · exact .inr ⟨g, cap, cur, hv, hg, (hk g hg (lt_of_heap hh)).trans hh, r⟩
  · obtain ⟨o1, o2⟩ := h.own i x C h1 h2
    exact ⟨o1.of_block (hk C o2 o1.lt), o2⟩
end Go.Proofs.Ytafmpdljljmddaa
namespace Go.Proofs.Ytafmpdljljmddaa
open Go.RowKit Go.Shelf
set_option linter.unusedVariables false
set_option maxRecDepth 100000

/-- An operation that keeps what holds of every content of a line. -/
def EvF (N i : Nat) (P : List Nat → Prop) (f : St → St) : Prop := ∀ σ : St, σ.Ok → σ.n = N → Every σ i P → Every (f σ) i P
theorem acts_every {N i : Nat} {P : List Nat → Prop} : ∀ (fs : List (St → St)) (σ : St), (∀ f ∈ fs, GoodF N f) → (∀ f ∈ fs, EvF N i P f) → σ.Ok → σ.n = N → σ.ops + fs.length ≤ 1400000000000 → Every σ i P → Every (acts fs σ) i P
  | [], σ, _, _, _, _, _, h => h
  | f :: fs, σ, hg, he, hok, hn, ho, h => by
    rw [List.length_cons] at ho
    have h1 := (hg f (by simp) σ hok hn (by omega)).1
    have e1 := h1.ops
    have h2 : Every (tick (f σ)) i P := he f (by simp) σ hok hn h
    exact acts_every fs (tick (f σ)) (fun g hg' => hg g (by simp [hg'])) (fun g hg' => he g (by simp [hg'])) h1.ok (h1.n.trans hn) (by omega) h2
/-- What the power leaves of a line. -/
theorem run_every {N i : Nat} {P : List Nat → Prop} {fs : List (St → St)} {σ s : St} (hg : ∀ f ∈ fs, GoodF N f) (he : ∀ f ∈ fs, EvF N i P f) (hok : σ.Ok) (hn : σ.n = N) (ho : σ.ops + fs.length ≤ 1400000000000) (hi : i < N) (h : Every σ i P) (hr : RunD fs σ 5 s) : P (s.line i) := by
  rcases hr with ⟨e, _⟩ | ⟨_, _, pre, f, post, rfl, hop⟩
  · cases e
  · rw [List.length_append, List.length_cons] at ho
    have hg1 : ∀ g ∈ pre, GoodF N g := fun g hg' => hg g (by simp [hg'])
    have h1 := acts_every pre σ hg1 (fun g hg' => he g (by simp [hg'])) hok hn (by omega) h
    have hl := acts_like pre σ hg1 hok hn (by omega)
    have h2 := he f (by simp) (acts pre σ) hl.ok (hl.n.trans hn) h1
    have e0 := hl.ops
    have h3 := (hg f (by simp) (acts pre σ) hl.ok (hl.n.trans hn) (by omega)).1
    have h4 : (f (acts pre σ)).n = N := h3.n.trans (hl.n.trans hn)
    rcases hop with ⟨_, e, _⟩ | ⟨af, kp, _, ⟨_, e, _⟩ | ⟨_, _, hL⟩⟩
    · cases e
    · cases e
    · exact Every.lost (P := P) hL (by show i < (f (acts pre σ)).n; omega) h2
/-- What is the same of a device that the power left. -/
theorem run_len {N : Nat} {fs : List (St → St)} {σ s : St} (hg : ∀ f ∈ fs, GoodF N f) (hok : σ.Ok) (hn : σ.n = N) (ho : σ.ops + fs.length ≤ 1400000000000) (hr : RunD fs σ 5 s) : s.n = N ∧ s.bytes.length = 64 * N ∧ (∀ j, s.past j = []) ∧ s.off = true ∧ s.arms = [] ∧ s.cnt = 0 ∧ s.ops ≤ σ.ops + fs.length ∧ s.Ok := by
  rcases hr with ⟨e, _⟩ | ⟨_, _, pre, f, post, rfl, hop⟩
  · cases e
  · rw [List.length_append, List.length_cons] at ho ⊢
    have hl := acts_like pre σ (fun g hg' => hg g (by simp [hg'])) hok hn (by omega)
    have e0 := hl.ops
    have h3 := (hg f (by simp) (acts pre σ) hl.ok (hl.n.trans hn) (by omega)).1
    have h4 : (f (acts pre σ)).n = N := h3.n.trans (hl.n.trans hn)
    have h5 : (f (acts pre σ)).ops + 1 = (acts pre σ).ops + 1 := h3.ops
    have hk := h3.ok
    rcases hop with ⟨_, e, _⟩ | ⟨af, kp, _, ⟨_, e, _⟩ | ⟨_, _, hL⟩⟩
    · cases e
    · cases e
    · have hokL : St.Ok { f (acts pre σ) with ops := (f (acts pre σ)).ops + 1, arms := [], cnt := 0 } := ⟨hk.pos, hk.max, hk.len, hk.byte, hk.out, hk.clen, hk.cbyte, hk.few, hk.flp, hk.opsm⟩
      refine ⟨hL.n.trans h4, by rw [hL.len]; show 64 * (f (acts pre σ)).n = _; rw [h4], fun j => by rw [hL.past], hL.off, hL.arms, hL.cnt, ?_, Lost.ok hokL hL⟩
      rw [hL.ops]
      show (f (acts pre σ)).ops + 1 ≤ _
      omega
theorem RunD.split {N : Nat} {xs ys : List (St → St)} {σ s : St} (hg : ∀ f ∈ xs, GoodF N f) (hok : σ.Ok) (hn : σ.n = N) (ho : σ.ops + xs.length ≤ 1400000000000) (h : RunD (xs ++ ys) σ 5 s) : RunD xs σ 5 s ∨ RunD ys (acts xs σ) 5 s := by
  have hl := acts_like xs σ hg hok hn ho
  rcases h with ⟨e, _⟩ | ⟨_, ha, pre, f, post, e, hop⟩
  · cases e
  · have ha' : (acts xs σ).arms ≠ [] := by rw [hl.arms]; exact ha
    rcases List.append_eq_append_iff.1 e with ⟨us, h1, h2⟩ | ⟨cs, h1, h2⟩
    · subst h1 h2
      exact .inr (.inr ⟨rfl, ha', us, f, post, rfl, by rw [← acts_append]; exact hop⟩)
    · cases cs with
      | nil =>
        simp at h1 h2
        subst h1 h2
        exact .inr (.inr ⟨rfl, ha', [], f, post, rfl, hop⟩)
      | cons g cs =>
        simp at h2
        obtain ⟨rfl, rfl⟩ := h2
        exact .inl (.inr ⟨rfl, ha, pre, f, cs, h1, hop⟩)
theorem evf_word {N i no : Nat} {P : List Nat → Prop} {bs : List Nat} {at_ : Nat} (hi : i < N) (hno : no / 8 < N) (hne : no / 8 ≠ i) : EvF N i P (fun s => wordA bs at_ s no) := fun σ hok hn h =>
  Every.word (bs := bs) (at_ := at_) (no := no) hok (by omega) (by omega) h (fun e => absurd e.symm hne)
theorem evf_fl {N i : Nat} {P : List Nat → Prop} (ls : List Nat) : ∀ f ∈ fls ls, EvF N i P f := by
  intro f hf
  obtain ⟨l, _, rfl⟩ := List.mem_map.1 hf
  exact fun σ _ _ h => Every.flush (i := l) h
theorem evf_fn {N i : Nat} {P : List Nat → Prop} : EvF N i P fnA := fun σ _ _ h => (Every.fence h : Every (fenceDo σ) i P)
theorem evf_rng {N i : Nat} {P : List Nat → Prop} (at_ n : Nat) : ∀ f ∈ rngF at_ n, EvF N i P f := by
  intro f hf
  rcases List.mem_append.1 hf with h | h
  · exact evf_fl _ f h
  · rw [List.mem_singleton.1 h]
    exact evf_fn
theorem mem_wordsOf {at_ n no : Nat} (h : at_ + n ≤ 4194304) (hno : no ∈ wordsOf at_ n) : at_ / 8 ≤ no ∧ no * 8 < at_ + n := by
  rw [wordsOf_eq at_ n h] at hno
  split at hno
  · cases hno
  · obtain ⟨i, hi, rfl⟩ := List.mem_map.1 hno
    have := List.mem_range.1 hi
    omega
theorem evf_wds {N i : Nat} {P : List Nat → Prop} {bs cs : List Nat} {at_ : Nat} (hi : i < N) (hN : N ≤ 65536) (hl : at_ + bs.length ≤ 64 * N) (ho : 64 * i + 64 ≤ at_ ∨ at_ + bs.length ≤ 64 * i) : ∀ f ∈ wds cs at_ (wordsOf at_ bs.length), EvF N i P f := by
  intro f hf
  obtain ⟨no, hno, rfl⟩ := List.mem_map.1 hf
  obtain ⟨h1, h2⟩ := mem_wordsOf (by omega) hno
  exact evf_word hi (by omega) (by omega)
theorem evf_recs {N i : Nat} {P : List Nat → Prop} {B : List Nat} (hi : i < N) (hN : N ≤ 65536) : ∀ (xs : List (Int × Int)) (at_ : Nat), at_ + (recsB B xs).length ≤ 64 * N → (64 * i + 64 ≤ at_ ∨ at_ + (recsB B xs).length ≤ 64 * i) → ∀ f ∈ recsF B at_ xs, EvF N i P f
  | [], at_, _, _, f, hf => by cases hf
  | x :: t, at_, hl, ho, f, hf => by
    have e : recsB B (x :: t) = recOf B x ++ recsB B t := rfl
    rw [e, List.length_append] at hl ho
    rcases List.mem_append.1 hf with h | h
    · exact evf_wds hi hN (by omega) (by omega) f h
    · exact evf_recs hi hN t _ (by omega) (by omega) f h
theorem recs_good {N : Nat} {B : List Nat} (hb : ∀ y ∈ B, y < 256) (hN : N ≤ 65536) : ∀ (xs : List (Int × Int)) (at_ : Nat), at_ + (recsB B xs).length ≤ 64 * N → ∀ f ∈ recsF B at_ xs, GoodF N f
  | [], at_, _, f, hf => by cases hf
  | x :: t, at_, hl, f, hf => by
    have e : recsB B (x :: t) = recOf B x ++ recsB B t := rfl
    rw [e, List.length_append] at hl
    rcases List.mem_append.1 hf with h | h
    · exact wds_good (rec_lt hb) (wordsOf_lt (m := N) (by omega) (by omega)) f h
    · exact recs_good hb hN t _ (by omega) f h
/-- Lines that were flushed have one content behind the Fence. -/
theorem fls_due : ∀ (ls : List Nat) (σ : St) (j : Nat), (j ∈ ls ∨ Due σ j) → Due (acts (fls ls) σ) j
  | [], σ, j, h => h.resolve_left (by simp)
  | i :: ls, σ, j, h => by
    refine fls_due ls (tick (flA σ i)) j ?_
    rcases h with h | h
    · rcases List.mem_cons.1 h with h | h
      · exact .inr (Due.flush (.inl h))
      · exact .inl h
    · exact .inr (Due.flush (.inr h))
theorem rng_one {N at_ n j : Nat} {σ : St} (hok : σ.Ok) (hn : σ.n = N) (ho : σ.ops + (rngF at_ n).length ≤ 1400000000000) (hj : j ∈ linesOf at_ n) : (acts (rngF at_ n) σ).past j = [] := by
  have hd := fls_due (linesOf at_ n) σ j (.inl hj)
  have e : (rngF at_ n).length = (fls (linesOf at_ n)).length + 1 := by unfold rngF; simp
  have hl := acts_like (N := N) (fls (linesOf at_ n)) σ (fls_good _) hok hn (by omega)
  unfold rngF
  rw [acts_append]
  exact fence_one hd (fun k hk => (hl.ok.flp _ k hk).2)
/-- Publish, where each line has one content: all of the word, or nothing. -/
theorem pub_lost {N v a : Nat} {σ s : St} (hok : σ.Ok) (hn : σ.n = N) (hE : ∀ i, i < N → Every σ i (· = σ.line i)) (ha6 : a % 64 = 0) (hal : a + 8 ≤ 64 * N) (hops : σ.ops + 1000000 ≤ 1400000000000) (hr : RunD (pubF v a) σ 5 s) : s.bytes = σ.bytes ∨ s.bytes = splice σ.bytes a (leB 8 v) := by
  have hmx := hok.max
  have p1 := pub_few (v := v) (at_ := a) (by omega)
  have hg := pub_good (N := N) (v := v) (at_ := a) hal (by omega)
  have h8 : (leB 8 v).length = 8 := leB_length 8 v
  have hbl : σ.bytes.length = 64 * N := by rw [hok.len, hn]
  have ew : wordsOf a 8 = [a / 8] := words1 (by omega) (by omega)
  have hsl : (splice σ.bytes a (leB 8 v)).length = 64 * N := (splice_len _ _ _ (by omega)).trans hbl
  obtain ⟨q1, q2, _⟩ := run_len hg hok hn (by omega) hr
  have ho : ∀ i, i < N → i ≠ a / 64 → s.line i = σ.line i := fun i hi hne => by
    refine run_every (P := fun c => c = σ.line i) hg ?_ hok hn (by omega) hi (hE i hi) hr
    intro f hf
    unfold pubF at hf
    rcases List.mem_append.1 hf with h | h
    · rw [ew] at h
      obtain ⟨no, hno, rfl⟩ := List.mem_map.1 h
      rw [List.mem_singleton.1 hno]
      exact evf_word hi (by omega) (by omega)
    · rcases List.mem_append.1 h with h | h
      · exact evf_fl _ f h
      · rw [List.mem_singleton.1 h]
        exact evf_fn
  have hll : (σ.line (a / 64)).length = 64 := line_len hok (by omega)
  have hne2 : splice (splice (σ.line (a / 64)) 0 (leB 8 v)) 0 (leB 8 v) = splice (σ.line (a / 64)) 0 (leB 8 v) := by
    simp [splice, h8]
  have hn1 : s.line (a / 64) = σ.line (a / 64) ∨ s.line (a / 64) = splice (σ.line (a / 64)) 0 (leB 8 v) := by
    refine run_every (P := fun c => c = σ.line (a / 64) ∨ c = splice (σ.line (a / 64)) 0 (leB 8 v)) hg ?_ hok hn (by omega) (by omega) ((hE (a / 64) (by omega)).mono (fun c hc => .inl hc)) hr
    intro f hf
    unfold pubF at hf
    rcases List.mem_append.1 hf with h | h
    · rw [ew] at h
      obtain ⟨no, hno, rfl⟩ := List.mem_map.1 h
      rw [List.mem_singleton.1 hno]
      intro τ hτ hτn hE2
      have e8 : a / 8 / 8 = a / 64 := by omega
      refine Every.word (bs := leB 8 v) (at_ := a) (no := a / 8) hτ (by omega) (by omega) hE2 (fun _ => .inr ?_)
      have em : max a (a / 8 * 8) = a := by omega
      rw [em, e8, ha6, Nat.sub_self, List.drop_zero, show a % 8 = 0 by omega, List.take_of_length_le (by omega)]
      rcases hE2.1 with h1 | h1
      · rw [h1]
      · rw [h1]
        exact hne2
    · rcases List.mem_append.1 h with h | h
      · exact evf_fl _ f h
      · rw [List.mem_singleton.1 h]
        exact evf_fn
  rcases hn1 with h | h
  · left
    refine bytes_of_lines q2 hbl (fun j hj => ?_)
    by_cases e : j = a / 64
    · rw [e]; exact h
    · exact ho j hj e
  · right
    refine bytes_of_lines q2 hsl (fun j hj => ?_)
    by_cases e : j = a / 64
    · rw [e]
      refine Eq.trans h ?_
      refine List.ext_getElem? fun k => ?_
      rw [splice_get (σ.line (a / 64)) _ 0 k (by omega), List.getElem?_take, if_neg (show ¬ k < 0 by omega)]
      by_cases hk : k < 64
      · rw [if_pos hk, List.getElem?_drop, splice_get σ.bytes _ a _ (by omega), if_neg (show ¬ 64 * (a / 64) + k < a by omega)]
        by_cases h2 : k < 8
        · rw [if_pos (show k < 0 + (leB 8 v).length by omega), if_pos (show 64 * (a / 64) + k < a + (leB 8 v).length by omega)]
          congr 1
          omega
        · rw [if_neg (show ¬ k < 0 + (leB 8 v).length by omega), if_neg (show ¬ 64 * (a / 64) + k < a + (leB 8 v).length by omega), line_get hk]
      · rw [if_neg hk, if_neg (show ¬ k < 0 + (leB 8 v).length by omega), List.getElem?_eq_none (by omega)]
    · refine Eq.trans (ho j hj e) ?_
      exact (other_line (at_ := a) hbl (by omega) (by omega) e).symm
/-- What a Write leaves that the power left: the lines beside the records are as they were, or all was done. -/
theorem wr_lost {a z N : Nat} {B : List Nat} {xs : List (Int × Int)} {σ s : St} (hσ : σ.Ok) (hN : σ.n = N) (hB : B = σ.bytes) (hp : ∀ j, σ.past j = []) (hx : ∀ y ∈ xs, Fine a z N y) (hroom : (recsB B xs).length ≤ z - 64) (hz : 64 ≤ z) (haz : a + z ≤ 64 * N) (ha6 : a % 64 = 0) (hops : σ.ops + 30000000 ≤ 1400000000000) (hml : xs.length ≤ 4194304) (hr : RunD (wrF B a xs) σ 5 s) :
    (∀ i, i < N → (64 * i + 64 ≤ a + 64 ∨ a + z ≤ 64 * i) → s.line i = σ.line i) ∨ s.bytes = splice (splice B (a + 64) (recsB B xs)) a (leB 8 xs.length) := by
  have hmx := hσ.max
  have hB64 : B.length = 64 * N := by rw [hB, hσ.len, hN]
  have hb256 : ∀ y ∈ B, y < 256 := by rw [hB]; exact hσ.byte
  obtain ⟨R, hf⟩ := Recs.whole hσ hN hB hx hroom hz haz (by omega)
  have hro := R.like.ops
  have hrn := R.like.n
  have g0 := recs_good (N := N) (B := B) hb256 (by omega) xs (a + 64) (by omega)
  have r1 := rng_few (at_ := a + 64) (n := (recsB B xs).length) (by omega)
  have g1 := rng_good (N := N) (a + 64) (recsB B xs).length
  have l1 := acts_like (N := N) (rngF (a + 64) (recsB B xs).length) (acts (recsF B (a + 64) xs) σ) g1 R.like.ok (hrn.trans hN) (by omega)
  have o1 := l1.ops
  have n1 := l1.n
  have b1 := rng_bytes (a + 64) (recsB B xs).length (acts (recsF B (a + 64) xs) σ)
  have hE0 : ∀ i, Every σ i (· = σ.line i) := fun i => ⟨rfl, fun c hc => by rw [hp i] at hc; cases hc⟩
  have hE1 : ∀ i, i < N → (64 * i + 64 ≤ a + 64 ∨ a + 64 + (recsB B xs).length ≤ 64 * i) → Every (acts (recsF B (a + 64) xs) σ) i (· = σ.line i) := fun i hi ho => acts_every _ σ g0 (evf_recs hi (by omega) xs (a + 64) (by omega) (by omega)) hσ hN (by omega) (hE0 i)
  have hE2 : ∀ i, i < N → (64 * i + 64 ≤ a + 64 ∨ a + 64 + (recsB B xs).length ≤ 64 * i) → Every (acts (rngF (a + 64) (recsB B xs).length) (acts (recsF B (a + 64) xs) σ)) i (· = σ.line i) := fun i hi ho => acts_every _ _ g1 (evf_rng _ _) R.like.ok (hrn.trans hN) (by omega) (hE1 i hi ho)
  unfold wrF at hr
  rcases RunD.split g0 hσ hN (by omega) hr with h | h
  · exact .inl fun i hi ho => run_every (P := fun c => c = σ.line i) g0 (evf_recs hi (by omega) xs (a + 64) (by omega) (by omega)) hσ hN (by omega) hi (hE0 i) h
  · rcases RunD.split g1 R.like.ok (hrn.trans hN) (by omega) h with h | h
    · exact .inl fun i hi ho => run_every (P := fun c => c = σ.line i) g1 (evf_rng _ _) R.like.ok (hrn.trans hN) (by omega) hi (hE1 i hi (by omega)) h
    · have hall : ∀ i, i < N → Every (acts (rngF (a + 64) (recsB B xs).length) (acts (recsF B (a + 64) xs) σ)) i (· = (acts (rngF (a + 64) (recsB B xs).length) (acts (recsF B (a + 64) xs) σ)).line i) := fun i hi => by
        by_cases ho : 64 * i + 64 ≤ a + 64 ∨ a + 64 + (recsB B xs).length ≤ 64 * i
        · have h2 := hE2 i hi ho
          refine ⟨rfl, fun c hc => ?_⟩
          rw [h2.2 c hc]
          exact h2.1.symm
        · refine ⟨rfl, fun c hc => ?_⟩
          have hm : i ∈ linesOf (a + 64) (recsB B xs).length := by
            have := mem_linesOf (at_ := a + 64) (n := (recsB B xs).length) (i := 64 * i - (a + 64)) (by omega) (by omega)
            rwa [show (a + 64 + (64 * i - (a + 64))) / 64 = i by omega] at this
          rw [rng_one R.like.ok (hrn.trans hN) (by omega) hm] at hc
          cases hc
      rcases pub_lost l1.ok (n1.trans (hrn.trans hN)) hall ha6 (by omega) (by omega) h with e | e
      · left
        intro i hi ho
        have h3 : s.line i = (acts (rngF (a + 64) (recsB B xs).length) (acts (recsF B (a + 64) xs) σ)).line i := by unfold St.line; rw [e]
        rw [h3]
        exact (hE2 i hi (by omega)).1
      · right
        rw [e, b1, R.bytes]
end Go.Proofs.Ytafmpdljljmddaa
namespace Go.Proofs.Ytafmpdljljmddaa
open Go.RowKit Go.Shelf
set_option linter.unusedVariables false
set_option maxRecDepth 100000

theorem take_of_lines {s σ : St} {m N : Nat} (hs : s.bytes.length = 64 * N) (hσ : σ.bytes.length = 64 * N) (h : ∀ i, i < m → i < N → s.line i = σ.line i) : s.bytes.take (64 * m) = σ.bytes.take (64 * m) := by
  refine List.ext_getElem? fun k => ?_
  rw [List.getElem?_take, List.getElem?_take]
  split
  · by_cases hk : k < 64 * N
    · have e := h (k / 64) (by omega) (by omega)
      have h1 := line_get (σ := s) (i := k / 64) (k := k % 64) (by omega)
      have h2 := line_get (σ := σ) (i := k / 64) (k := k % 64) (by omega)
      rw [show 64 * (k / 64) + k % 64 = k by omega] at h1 h2
      rw [← h1, ← h2, e]
    · rw [List.getElem?_eq_none (by omega), List.getElem?_eq_none (by omega)]
  · rfl
theorem drop_of_lines {s σ : St} {m N : Nat} (hs : s.bytes.length = 64 * N) (hσ : σ.bytes.length = 64 * N) (h : ∀ i, m ≤ i → i < N → s.line i = σ.line i) : s.bytes.drop (64 * m) = σ.bytes.drop (64 * m) := by
  refine List.ext_getElem? fun k => ?_
  rw [List.getElem?_drop, List.getElem?_drop]
  by_cases hk : 64 * m + k < 64 * N
  · have e := h ((64 * m + k) / 64) (by omega) (by omega)
    have h1 := line_get (σ := s) (i := (64 * m + k) / 64) (k := (64 * m + k) % 64) (by omega)
    have h2 := line_get (σ := σ) (i := (64 * m + k) / 64) (k := (64 * m + k) % 64) (by omega)
    rw [show 64 * ((64 * m + k) / 64) + (64 * m + k) % 64 = 64 * m + k by omega] at h1 h2
    rw [← h1, ← h2, e]
  · rw [List.getElem?_eq_none (by omega), List.getElem?_eq_none (by omega)]
theorem splice_lo {B c : List Nat} {at_ p : Nat} (h : at_ + c.length ≤ B.length) (hp : p ≤ at_) : (splice B at_ c).take p = B.take p := by
  refine List.ext_getElem? fun k => ?_
  rw [List.getElem?_take, List.getElem?_take]
  split
  · rw [splice_get _ _ _ _ h, if_pos (by omega)]
  · rfl
theorem splice_hi {B c : List Nat} {at_ p : Nat} (h : at_ + c.length ≤ B.length) (hp : at_ + c.length ≤ p) : (splice B at_ c).drop p = B.drop p := by
  refine List.ext_getElem? fun k => ?_
  rw [List.getElem?_drop, List.getElem?_drop, splice_get _ _ _ _ h, if_neg (by omega), if_neg (by omega)]
/-- What is seen then: c is what Write answered. -/
structure Aft (B : List Nat) (xs : List (Int × Int)) (c : Int) (C : List Nat) : Prop where
  res : ∃ rs, (rs = recL B xs ∨ (rs = [] ∧ c = 5)) ∧ leV ((C.drop 128).take 8) = rs.length ∧ RecsAt 128 384 16 C 192 rs
  lo : C.take 128 = B.take 128
  hi : C.drop 512 = B.drop 512
theorem aft_full {B C : List Nat} {xs : List (Int × Int)} {c : Int} (hB : B.length = 1024) (hx : ∀ y ∈ xs, Fine 128 384 16 y) (hroom : (recsB B xs).length ≤ 320) (hml : xs.length ≤ 4194304) (hC : C = splice (splice B 192 (recsB B xs)) 128 (leB 8 xs.length)) : Aft B xs c C := by
  have h8 : (leB 8 xs.length).length = 8 := leB_length 8 _
  have hs1 : (splice B 192 (recsB B xs)).length = B.length := splice_len _ _ _ (by omega)
  have hn := splice_at (B := splice B 192 (recsB B xs)) (c := leB 8 xs.length) (at_ := 128) (by omega)
  rw [h8] at hn
  refine ⟨⟨recL B xs, .inl rfl, ?_, ?_⟩, ?_, ?_⟩
  · rw [hC, hn, recL_len]
    exact leV_of (by omega)
  · refine recs_at (by omega) (by omega) xs 192 hx ?_ (by omega)
    rw [hC, splice_out (by omega) (by omega)]
    exact splice_at (by omega)
  · rw [hC, splice_lo (by omega) (by omega), splice_lo (by omega) (by omega)]
  · rw [hC, splice_hi (by omega) (by omega), splice_hi (by omega) (by omega)]
theorem aft_lost {B : List Nat} {xs : List (Int × Int)} {σ s : St} (hσ : σ.bytes = B) (hB : B.length = 1024) (hs : s.bytes.length = 1024) (hnum : leV ((B.drop 128).take 8) = 0) (h : ∀ i, i < 16 → (64 * i + 64 ≤ 128 + 64 ∨ 128 + 384 ≤ 64 * i) → s.line i = σ.line i) : Aft B xs 5 s.bytes := by
  have h1 := take_of_lines (s := s) (σ := σ) (m := 3) (N := 16) (by omega) (by rw [hσ]; omega) (fun i hi hN => h i hN (by omega))
  have h2 := drop_of_lines (s := s) (σ := σ) (m := 8) (N := 16) (by omega) (by rw [hσ]; omega) (fun i hi hN => h i hN (by omega))
  rw [hσ] at h1 h2
  have e1 : (s.bytes.drop 128).take 8 = (B.drop 128).take 8 := by
    have h3 := congrArg (fun l => (l.drop 128).take 8) h1
    simp only [List.drop_take, List.take_take] at h3
    simpa using h3
  refine ⟨⟨[], .inr ⟨rfl, rfl⟩, by rw [e1, hnum]; rfl, trivial⟩, ?_, h2⟩
  have h3 := congrArg (List.take 128) h1
  rw [List.take_take, List.take_take] at h3
  exact h3
/-- Extents that are brought always have room. -/
theorem need_brought {xs : List (Int × Int)} {k : Nat} (hk : k ≤ xs.length) (hk5 : k ≤ 5) : (needX 128 384 16 (brL xs k)).2 = 0 ∧ ((needX 128 384 16 (brL xs k)).1 = 0 ↔ k = 0) := by
  have hin := brL_in (xs := xs) (i := k)
  have hlen := brL_len hk
  have hz : ∀ l ∈ (brL xs k).map Prod.snd, 1 ≤ l ∧ l ≤ 90 := fun l hl => by
    obtain ⟨y, hy, rfl⟩ := List.mem_map.1 hl
    have := hin y hy
    omega
  have hl2 : ((brL xs k).map Prod.snd).length = k := by rw [List.length_map, hlen]
  have h1 := needV_good ((brL xs k).map Prod.snd) 0 hz (by omega) (by omega)
  have h2 := needV_sum ((brL xs k).map Prod.snd) 0 h1 (fun l hl => by have := hz l hl; omega)
  have h3 : ∀ (zs : List Int), (∀ l ∈ zs, 1 ≤ l ∧ l ≤ 40) → 32 * zs.length ≤ (zs.map (fun l => rlen l.toNat)).sum ∧ (zs.map (fun l => rlen l.toNat)).sum ≤ 64 * zs.length := by
    intro zs
    induction zs with
    | nil => intro _; simp
    | cons l t ih =>
      intro h
      have h1 := ih (fun y hy => h y (by simp [hy]))
      obtain ⟨h2, h3⟩ := h l (by simp)
      have h4 : 32 ≤ rlen l.toNat ∧ rlen l.toNat ≤ 64 := by unfold rlen padN; omega
      rw [List.map_cons, List.sum_cons, List.length_cons]
      omega
  have h4 := h3 ((brL xs k).map Prod.snd) (fun l hl => by
    obtain ⟨y, hy, rfl⟩ := List.mem_map.1 hl
    have := hin y hy
    omega)
  rw [hl2] at h4
  have h5 : allMay 128 384 16 (brL xs k) = true := by
    unfold allMay
    exact List.all_eq_true.2 fun x hx => may_of_fine (brL_fine x hx)
  unfold needX
  rw [if_pos h5, if_neg (by
    rintro (h | h)
    · exact h h1
    · rw [h2] at h; omega)]
  refine ⟨rfl, ?_⟩
  simp only
  rw [h2]
  omega
end Go.Proofs.Ytafmpdljljmddaa
namespace Go.Proofs.Ytafmpdljljmddaa
open Go.RowKit Go.Shelf
set_option linter.unusedVariables false
set_option maxRecDepth 100000

theorem wpList_append_alias {P : Program} (w : World) {ops : Array Oper} {rest : List Oper} {o : Oper} {a : Act} {Q : Exit → Act → World → Prop}
    (hg : o.guard = none) (s x : Operand) (t : TypeId) (hop : o.op = Op.call { callee := Callee.builtin Builtin.append, args := #[s, x], argTypes := #[t, t] })
    (base : Nat) (e : TypeId) (i : TypeInfo) (z : Value) (size bytes : Nat) (h1 : P.underlying t = some (.slice e)) (h2 : P.info? e = some i) (h3 : i.zero = some z) (h4 : i.size = size) (h5 : i.bytes = bytes) (h6 : z.cells.size = size) (h7 : 0 < size)
    (v : Value) (n : Nat) (xs : List Value) (hs : a.eval s = v) (hown : w.ownsRow base e size v n xs)
    (ad : Addr) (m c : Nat) (news : List Value) (hx : a.eval x = .slice (some ad) m c) (hn : news.length = m * size) (hc : ∀ j u, news[j]? = some u → w.cell? (ad.add j) = some u) (h1c : ∀ u ∈ news, u.oneCell' = true) (hm : 1 ≤ m)
    (b1 : n + m ≤ maxLen) (b2 : (n + m) * bytes ≤ 140737488355328) (hbase : base ≤ w.heap.size)
    (hK : ∀ v' w', w'.ownsRow base e size v' (n + m) (xs ++ news) → (v'.ownBlock = v.ownBlock ∧ w.grownBy w' v.ownBlock ∨ v'.ownBlock = some w.heap.size ∧ w.grownBy w' none) → wpList P ops Q rest (a.put o.dst v') w') :
    wpList P ops Q (o :: rest) a w := by
  have hsum : ∃ v' w', (Builtin.append_ #[t, t] o.type #[v, .slice (some ad) m c]).run P w = .ok v' w' ∧ w'.ownsRow base e size v' (n + m) (xs ++ news) ∧ (v'.ownBlock = v.ownBlock ∧ w.grownBy w' v.ownBlock ∨ v'.ownBlock = some w.heap.size ∧ w.grownBy w' none) := by
    rcases hown.2 with ⟨rfl, rfl⟩ | ⟨g, cap, cur, rfl, hbg, hgg, hnc, hcm, hcs, htake⟩
    · obtain ⟨v', w', hr, r2, r3, r4, r5⟩ := run_append_own_at (P := P) w base t o.type e i z size bytes h1 h2 h3 h4 h5 h6 h7 (.slice none 0 0) 0 xs hown ad m c news hn hc h1c b1 b2 hbase
      refine ⟨v', w', hr, r2, .inr ⟨?_, r3⟩⟩
      rcases r5 with h | h
      · rcases r2.2 with ⟨_, h0⟩ | ⟨g, cap, cur, rfl, _⟩
        · omega
        · simp [Value.ownBlock] at h
      · exact h
    · by_cases hroom : n + m ≤ cap
      · obtain ⟨w', hr, r1, r2⟩ := run_append_fits (P := P) w base t o.type e i size h1 h2 h4 g n cap xs hown ad m c news hn hc h1c hroom
        exact ⟨_, w', hr, r1, .inl ⟨rfl, r2⟩⟩
      · obtain ⟨v', w', hr, r1, r2⟩ := run_append_arg_grows (P := P) w t o.type e i z size bytes h1 h2 h3 h4 h5 h6 h7 ⟨g, 0, none⟩ n cap xs hown.1 (hown.cells (g := g) rfl) ad m c news hn hc (by omega) b1 b2
        have hob : v'.ownBlock = some w.heap.size ∨ True := .inr trivial
        obtain ⟨v2, w2, hr2, q1, q2, q3, q4⟩ := run_append_own_at (P := P) w base t o.type e i z size bytes h1 h2 h3 h4 h5 h6 h7 (.slice (some ⟨g, 0, none⟩) n cap) n xs hown ad m c news hn hc h1c b1 b2 hbase
        rw [hr] at hr2
        cases hr2
        refine ⟨v', w', hr, ⟨r1.1, ?_⟩, .inr ⟨?_, r2⟩⟩
        · rcases r1.2 with h | ⟨g', cap', cur', hv, hb, r⟩
          · exact .inl h
          · exact .inr ⟨g', cap', cur', hv, by omega, r⟩
        · rcases q4 with h | h
          · rcases r1.2 with ⟨_, h0⟩ | ⟨g', cap', cur', rfl, hb, _⟩
            · omega
            · simp [Value.ownBlock] at h
              subst h
              have := lt_of_heap hgg
              omega
          · exact h
  obtain ⟨v', w', hr, r1, r2⟩ := hsum
  refine wpList_plain hg fun K hK' => ?_
  unfold Oper.wp execOp
  simp only [hop, resolve, invoke, builtin, Sem.run_bind, Sem.run_pure, Result.andThen_ok, List.map_toArray, List.map_cons, List.map_nil, hs, hx, hr]
  exact hK' _ _ (hK v' w' r1 r2)
/-- An element of a row of records is written over. -/
def set2At (W : World) (g o : Nat) (v0 v1 : Value) : World := (W.setCell ⟨g, o, none⟩ v0).setCell ⟨g, o + 1, none⟩ v1
theorem own_set2 {W : World} {base n i : Nat} {t : TypeId} {v : Value} {xs : List Value} (h : W.ownsRow base t 2 v n xs) (hi : i < n) :
    ∃ g cap a0 a1, v = .slice (some ⟨g, 0, none⟩) n cap ∧ base ≤ g ∧ g < W.heap.size ∧ W.cell? ⟨g, i * 2, none⟩ = some a0 ∧ (∀ u, (W.setCell ⟨g, i * 2, none⟩ u).cell? ⟨g, i * 2 + 1, none⟩ = some a1) ∧ W.frozen? ⟨g, i * 2, none⟩ = false ∧ W.frozen? ⟨g, i * 2 + 1, none⟩ = false ∧
      ∀ v0 v1, (set2At W g (i * 2) v0 v1).ownsRow base t 2 v n ((xs.set (i * 2) v0).set (i * 2 + 1) v1) := by
  rcases h.2 with ⟨_, h0⟩ | ⟨g, cap, cur, rfl, hb, hg, hn, hm, hs, ht⟩
  · omega
  · have l0 : i * 2 < cur.size := by omega
    have l1 : i * 2 + 1 < cur.size := by omega
    refine ⟨g, cap, cur[i * 2], cur[i * 2 + 1], rfl, hb, lt_of_heap hg, (cell8 hg _).trans (Array.getElem?_eq_getElem l0), fun u => ?_, froz8 hg _, froz8 hg _, fun v0 v1 => ?_⟩
    · have R1 := heap_setCell_same W g (i * 2) _ _ u hg
      refine (cell8 R1 _).trans ?_
      simp
    · have R1 := heap_setCell_same W g (i * 2) _ _ v0 hg
      have R2 := heap_setCell_same _ g (i * 2 + 1) _ _ v1 R1
      refine ⟨by simp [h.1], .inr ⟨g, cap, _, rfl, hb, R2, hn, hm, by simpa using hs, ?_⟩⟩
      rw [Array.toList_setIfInBounds, Array.toList_setIfInBounds, List.take_set, List.take_set, ht]
theorem set2_other {W : World} {g o k : Nat} {v0 v1 : Value} (hk : k ≠ g) : (set2At W g o v0 v1).heap[k]? = W.heap[k]? := by
  unfold set2At
  rw [heap_setCell_other _ ⟨g, o + 1, none⟩ k _ hk, heap_setCell_other _ ⟨g, o, none⟩ k _ hk]
theorem set2_gr {W : World} {g o : Nat} {v0 v1 : Value} {X : Nat → Prop} (hx : X g) : Gr X W (set2At W g o v0 v1) :=
  (Gr.set W g o v0 hx : Gr X W _).trans (Gr.set _ g (o + 1) v1 hx : Gr X _ _) (fun i h => .inl h)
/-- A Write of brought extents. -/
theorem fr_write {B0 gl b k cap : Nat} {W : World} {L : Lay} {σ : St} {ea : Option Addr} {xs : List (Int × Int)} (h : Lg B0 W gl b 128 384 L σ) (hn : σ.n = 16) (ho : σ.ops = 0) (hb : σ.bytes = imgZ 8) (hkx : k ≤ xs.length) (hk5 : k ≤ 5) (he : SlE W ea (brL xs k)) :
    Calls Try.prog 8 #[.pointer (some ⟨gl, 0, none⟩), .slice ea k cap] W fun e w' => e = .returned (.int .i64 0) ∧ ∃ L' s, Lg B0 w' gl b 128 384 L' s ∧ s.n = 16 ∧ s.ops ≤ 6000000 ∧ leV ((s.bytes.drop 128).take 8) = k ∧ RecsAt 128 384 16 s.bytes 192 (recL (imgZ 8) (brL xs k)) ∧ Kp8 B0 W w' := by
  obtain ⟨hn2, hn1⟩ := need_brought hkx hk5
  have hlen := brL_len hkx
  have hnum : leV ((σ.bytes.drop 128).take 8) = 0 := by rw [hb]; exact imgZ_num
  by_cases hk0 : k = 0
  · have kk := lwrite_none (cap := cap) h.log h.dv (by omega) (by omega) (by rw [hn]; omega) hnum he hlen (by omega) (.inr (by rw [hn]; exact hn1.2 hk0))
    rw [hn, hn2] at kk
    refine kk.mono ?_
    rintro e w' ⟨rfl, hB⟩
    refine ⟨rfl, L, σ, h.below hB, hn, by omega, by rw [hnum, hk0], ?_, Kp8.of_below hB h.big⟩
    have : brL xs k = [] := List.length_eq_zero_iff.1 (by rw [hlen, hk0])
    rw [this]
    trivial
  · refine (lg_write (cap := cap) h ⟨by omega, by omega, by omega, by rw [hn]; omega⟩ (by omega) hnum he hlen (by omega) (by omega) (by rw [hn]; exact hn2)).mono ?_
    rintro e w' ⟨rfl, L', s, hL, hW, hK, hS⟩
    have h1 := hW.like.ops
    have h2 := hW.few
    refine ⟨rfl, L', s, hL, hW.like.n.trans hn, by omega, by rw [hW.num, hlen], ?_, hK⟩
    have h3 := hW.recs
    rw [hn, hb] at h3
    exact h3
set_option maxHeartbeats 1000000 in
theorem apart_nil (X : Nat → Prop) (a : Option Addr) (cap : Nat) (w : World) : Calls Try.prog 12 #[.slice a 0 cap] w fun e w' => e = .returned (.bool true) ∧ Gr X w w' := by
  go_enter Try.func12, Try.ntmps12
  go_wp2
  go_loopw [3] (fun i wr => i = .int .i64 0 ∧ wr = w) (fun _ _ => 0)
  case atStart => exact ⟨rfl, rfl⟩
  case round =>
    obtain ⟨rfl, rfl⟩ := hrel
    go_wp2
    go_loopw [5, 6] (fun v i wx => v = .slice none 0 0 ∧ i = .int .i64 0 ∧ wx = wr) (fun _ _ _ => 0)
    case atStart => exact ⟨rfl, rfl, rfl⟩
    case round =>
      obtain ⟨rfl, rfl, hw⟩ := hrel
      subst hw
      go_wp2
      go_loopw [9] (fun i wx => i = .int .i64 0 ∧ wx = wr) (fun _ _ => 0)
      case atStart => exact ⟨rfl, rfl⟩
      case round =>
        obtain ⟨rfl, hw⟩ := hrel
        subst hw
        go_wp2
        go_ret
        exact ⟨rfl, Gr.refl _ _⟩
end Go.Proofs.Ytafmpdljljmddaa
namespace Go.Proofs.Ytafmpdljljmddaa
open Go.RowKit Go.Shelf
set_option linter.unusedVariables false
set_option maxRecDepth 100000

def fL (rs : List (Nat × List Nat)) (i : Nat) : Nat := (rs.getD i (0, [])).2.length
def fK (rs : List (Nat × List Nat)) (i : Nat) : Nat := (recB (rs.getD i (0, [])).1 (rs.getD i (0, [])).2).length - 24
def fG (Ra Rb : List Nat) (t : Nat) : Nat := if t % 2 = 0 then Ra.getD (t / 2) 0 else Rb.getD (t / 2) 0
def allC (rs : List (Nat × List Nat)) (Ra Rb : List Nat) (i : Nat) : List Value := (List.range (2 * i)).map (fun t => .slice (some ⟨fG Ra Rb t, 24, none⟩) (fL rs (t / 2)) (fK rs (t / 2)))
theorem allC_succ (rs : List (Nat × List Nat)) (Ra Rb : List Nat) (i : Nat) : allC rs Ra Rb (i + 1) = allC rs Ra Rb i ++ [.slice (some ⟨Ra.getD i 0, 24, none⟩) (fL rs i) (fK rs i), .slice (some ⟨Rb.getD i 0, 24, none⟩) (fL rs i) (fK rs i)] := by
  unfold allC
  rw [show 2 * (i + 1) = 2 * i + 1 + 1 by omega, List.range_succ, List.range_succ, List.map_append, List.map_append, List.append_assoc]
  have e1 : fG Ra Rb (2 * i) = Ra.getD i 0 := by unfold fG; rw [if_pos (by omega), show 2 * i / 2 = i by omega]
  have e2 : fG Ra Rb (2 * i + 1) = Rb.getD i 0 := by unfold fG; rw [if_neg (by omega), show (2 * i + 1) / 2 = i by omega]
  simp only [List.map_cons, List.map_nil, e1, e2]
  rw [show 2 * i / 2 = i by omega, show (2 * i + 1) / 2 = i by omega]
  rfl
theorem allC_len (rs : List (Nat × List Nat)) (Ra Rb : List Nat) (i : Nat) : (allC rs Ra Rb i).length = 2 * i := by simp [allC]
theorem getD_mem {l : List Nat} {i : Nat} (h : i < l.length) : l[i]? = some (l.getD i 0) ∧ l.getD i 0 ∈ l := by
  have e : l.getD i 0 = l[i] := by simp [List.getD, h]
  exact ⟨by rw [e]; exact List.getElem?_eq_getElem h, by rw [e]; exact List.getElem_mem h⟩
theorem fr_cell {w : World} {base k c i : Nat} {a : Option Addr} {rs : List (Nat × List Nat)} {Rs : List Nat} (h : RowC w base (.slice a k c) rs Rs) (hk : rs.length = k) (hi : i < k) :
    ∃ g cur, a = some ⟨g, 0, none⟩ ∧ base ≤ g ∧ w.heap[g]? = some (.cells cur 44 (0, 0)) ∧ cur[i * 2 + 1]? = some (.slice (some ⟨Rs.getD i 0, 24, none⟩) (fL rs i) (fK rs i)) := by
  obtain ⟨g, cap, cur, hv, hg, hb, hc⟩ := h.slice (by omega)
  cases hv
  have hR : i < Rs.length := by rw [h.len]; omega
  have h1 : rs[i]? = some rs[i] := List.getElem?_eq_getElem (by omega)
  refine ⟨g, cur, rfl, hb, hg, ?_⟩
  have h2 := (hc i (rs[i], Rs.getD i 0) (List.getElem?_zip_eq_some.2 ⟨h1, (getD_mem hR).1⟩)).2
  rw [h2]
  have e : rs.getD i (0, []) = rs[i] := by simp [List.getD, h1]
  unfold pairC fL fK
  rw [e]
theorem fr_own {w : World} {base i : Nat} {v : Value} {rs : List (Nat × List Nat)} {Rs : List Nat} (h : RowC w base v rs Rs) (hi : i < rs.length) : OwnB w (Rs.getD i 0) (recB (rs.getD i (0, [])).1 (rs.getD i (0, [])).2) ∧ base ≤ Rs.getD i 0 := by
  have hR : i < Rs.length := by rw [h.len]; exact hi
  have h1 : rs[i]? = some rs[i] := List.getElem?_eq_getElem hi
  have e : rs.getD i (0, []) = rs[i] := by simp [List.getD, h1]
  rw [e]
  exact h.own i rs[i] _ h1 (getD_mem hR).1
theorem fr_mem {w : World} {base : Nat} {v : Value} {rs : List (Nat × List Nat)} {Rs : List Nat} (h : RowC w base v rs Rs) : ∀ R ∈ Rs, base ≤ R ∧ ∃ C, OwnB w R C := by
  intro R hR
  obtain ⟨i, hi, rfl⟩ := List.getElem_of_mem hR
  have hir : i < rs.length := by rw [← h.len]; exact hi
  obtain ⟨h1, h2⟩ := h.own i rs[i] Rs[i] (List.getElem?_eq_getElem hir) (List.getElem?_eq_getElem hi)
  exact ⟨h2, _, h1⟩
theorem fr_inj {Rs : List Nat} (h : Rs.Pairwise (· < ·)) {i j : Nat} (hi : i < Rs.length) (hj : j < Rs.length) (hne : i ≠ j) : Rs.getD i 0 ≠ Rs.getD j 0 := by
  have e : ∀ k (hk : k < Rs.length), Rs.getD k 0 = Rs[k] := fun k hk => by simp [List.getD, hk]
  rw [e i hi, e j hj]
  rw [List.pairwise_iff_getElem] at h
  rcases Nat.lt_or_gt_of_ne hne with hh | hh
  · exact Nat.ne_of_lt (h i j hi hj hh)
  · exact Nat.ne_of_gt (h j i hj hi hh)
theorem fr_apart {W : World} {base k ba bb : Nat} {v va vb : Value} {rs : List (Nat × List Nat)} {Ra Rb : List Nat} (hk : rs.length = k) (hk5 : k ≤ 5) (hv : W.ownsRow base 33 1 v (2 * k) (allC rs Ra Rb k)) (ha : RowC W ba va rs Ra) (hb : RowC W bb vb rs Rb) (hab : ∀ R ∈ Ra, R < bb) (hl : ∀ r ∈ rs, r.2.length ≤ 4194304) :
    Calls Try.prog 12 #[v] W fun e w' => e = .returned (.bool true) ∧ Gr (fun g => g ∈ Ra ∨ g ∈ Rb) W w' := by
  by_cases hk0 : k = 0
  · obtain ⟨a, c, rfl⟩ := own_slice hv
    rw [show 2 * k = 0 by omega]
    exact apart_nil _ a c W
  · rcases hv.2 with ⟨_, h0⟩ | ⟨g, cap, cur, rfl, hbg, hg, hnc, hcm, hcs, htk⟩
    · omega
    · have hla := ha.len
      have hlb := hb.len
      have hcell : ∀ t, t < 2 * k → W.cell? ⟨g, 0 + t, none⟩ = some (.slice (some ⟨fG Ra Rb t, 24, none⟩) (fL rs (t / 2)) (fK rs (t / 2))) := fun t ht => by
        have h1 := hv.cells (g := g) rfl t (.slice (some ⟨fG Ra Rb t, 24, none⟩) (fL rs (t / 2)) (fK rs (t / 2))) (by unfold allC; rw [List.getElem?_map, List.getElem?_range ht]; rfl)
        rw [Addr.add_lit] at h1
        exact h1
      have hX : ∀ t, t < 2 * k → fG Ra Rb t ∈ Ra ∨ fG Ra Rb t ∈ Rb := fun t ht => by
        unfold fG
        split
        · exact .inl (getD_mem (by omega)).2
        · exact .inr (getD_mem (by omega)).2
      have hlie : ∀ t, t < 2 * k → LieM W (fG Ra Rb) (fun t => fK rs (t / 2)) 24 t 0 := fun t ht => by
        have hlen := recB_len (rs.getD (t / 2) (0, [])).1 (rs.getD (t / 2) (0, [])).2
        refine ⟨recB (rs.getD (t / 2) (0, [])).1 (rs.getD (t / 2) (0, [])).2, ?_, by show _ = 24 + fK rs (t / 2); unfold fK; omega, fun i hi => by omega⟩
        unfold fG
        split
        · exact (fr_own ha (by omega)).1
        · exact (fr_own hb (by omega)).1
      refine apart_lies (fun g => g ∈ Ra ∨ g ∈ Rb) g 0 (2 * k) cap 24 (fG Ra Rb) (fun t => fL rs (t / 2)) (fun t => fK rs (t / 2)) W (by omega) (lt_of_heap hg) (by omega) hcell (fun t ht => ?_) (fun t ht => ?_) hlie hX ?_ (fun i hi j hj hne => ?_)
      · have hlen := recB_len (rs.getD (t / 2) (0, [])).1 (rs.getD (t / 2) (0, [])).2
        have hp : padN (rs.getD (t / 2) (0, [])).2.length ≤ 8 := by unfold padN; omega
        show fL rs (t / 2) ≤ fK rs (t / 2) ∧ fK rs (t / 2) < fL rs (t / 2) + 70
        unfold fL fK
        omega
      · show fL rs (t / 2) ≤ _
        have e : rs.getD (t / 2) (0, []) = rs[t / 2]'(by omega) := by simp [List.getD, show t / 2 < rs.length by omega]
        unfold fL
        rw [e]
        have := hl _ (List.getElem_mem (show t / 2 < rs.length by omega))
        omega
      · rintro (h | h)
        · obtain ⟨_, C, hC⟩ := fr_mem ha g h
          exact ne_ty hg hC (by decide) rfl
        · obtain ⟨_, C, hC⟩ := fr_mem hb g h
          exact ne_ty hg hC (by decide) rfl
      · have a1 : ∀ i, i < k → Ra.getD i 0 < bb := fun i hi => hab _ (getD_mem (by omega)).2
        have b1 : ∀ i, i < k → bb ≤ Rb.getD i 0 := fun i hi => (fr_own hb (by omega)).2
        unfold fG
        by_cases e1 : j % 2 = 0
        · rw [if_pos e1]
          by_cases e2 : i % 2 = 0
          · rw [if_pos e2]
            exact fr_inj ha.ne (by omega) (by omega) (by omega)
          · rw [if_neg e2]
            have := a1 (j / 2) (by omega)
            have := b1 (i / 2) (by omega)
            omega
        · rw [if_neg e1]
          by_cases e2 : i % 2 = 0
          · rw [if_pos e2]
            have := a1 (i / 2) (by omega)
            have := b1 (j / 2) (by omega)
            omega
          · rw [if_neg e2]
            exact fr_inj hb.ne (by omega) (by omega) (by omega)
/-- Two rows of records, the first i of which were written over. -/
structure Ovr (w0 wr : World) (ba bb m4 m6 : Nat) (va vb : Value) (k i : Nat) : Prop where
  ra : ∃ ya, wr.ownsRow ba 44 2 va k ya ∧ ∀ j, j < i → ya[j * 2]? = some (.int .i64 1)
  rb : ∃ yb, wr.ownsRow bb 44 2 vb k yb ∧ ∀ j, j < i → yb[j * 2]? = some (.int .i64 2)
  gr : Gr (fun g => m4 ≤ g ∧ g < m6) w0 wr
/-- The two rows, grown by i and by l places, while their first names stay. -/
structure Gro (w0 wr : World) (ba bb m4 m6 : Nat) (va vb p q : Value) (k i l : Nat) : Prop where
  rp : ∃ yp, wr.ownsRow ba 44 2 p (k + i) yp ∧ (∀ j, j < k → yp[j * 2]? = some (.int .i64 1)) ∧ ∀ j, k ≤ j → j < k + i → yp[j * 2]? = some (.int .i64 3)
  rq : ∃ yq, wr.ownsRow bb 44 2 q (k + l) yq ∧ (∀ j, j < k → yq[j * 2]? = some (.int .i64 2)) ∧ ∀ j, k ≤ j → j < k + l → yq[j * 2]? = some (.int .i64 4)
  ca : ∀ g j, va.ownBlock = some g → j < k → wr.cell? ⟨g, j * 2, none⟩ = some (.int .i64 1)
  cb : ∀ g j, vb.ownBlock = some g → j < k → wr.cell? ⟨g, j * 2, none⟩ = some (.int .i64 2)
  pl : p.ownBlock = va.ownBlock ∨ ∀ g, p.ownBlock = some g → w0.heap.size ≤ g
  ql : q.ownBlock = vb.ownBlock ∨ ∀ g, q.ownBlock = some g → w0.heap.size ≤ g
  ne : ∀ g, p.ownBlock = some g → q.ownBlock ≠ some g
  gr : Gr (fun g => m4 ≤ g ∧ g < m6) w0 wr
/-- Where the two rows lie. -/
structure Whr (w0 : World) (m4 m6 : Nat) (va vb : Value) : Prop where
  a : ∀ g, va.ownBlock = some g → m4 ≤ g ∧ g < m6
  b : ∀ g, vb.ownBlock = some g → m4 ≤ g ∧ g < m6
  ne : ∀ g, va.ownBlock = some g → vb.ownBlock ≠ some g
  big : m6 ≤ w0.heap.size
theorem own_cell2 {W : World} {base n s j g : Nat} {t : TypeId} {v u : Value} {ys : List Value} (h : W.ownsRow base t s v n ys) (hg : v.ownBlock = some g) (hj : ys[j]? = some u) : W.cell? ⟨g, j, none⟩ = some u := by
  have h1 := h.cells hg j u hj
  rw [Addr.add_lit, Nat.zero_add] at h1
  exact h1
theorem Gro.below {w0 wr W : World} {ba bb m4 m6 : Nat} {va vb p q : Value} {k i l : Nat} (h : Gro w0 wr ba bb m4 m6 va vb p q k i l) (hw : Whr w0 m4 m6 va vb) (hB : Below wr.heap.size wr W) : Gro w0 W ba bb m4 m6 va vb p q k i l := by
  have hs := h.gr.size
  have hk : ∀ g j, g < w0.heap.size → W.cell? ⟨g, j, none⟩ = wr.cell? ⟨g, j, none⟩ := fun g j hg => hB.cell (p := ⟨g, j, none⟩) (by show g < _; omega)
  obtain ⟨yp, p1, p2, p3⟩ := h.rp
  obtain ⟨yq, q1, q2, q3⟩ := h.rq
  have hb := hw.big
  exact ⟨⟨yp, own_below p1 hB, p2, p3⟩, ⟨yq, own_below q1 hB, q2, q3⟩, fun g j hg hj => by rw [hk g _ (by have := hw.a g hg; omega)]; exact h.ca g j hg hj, fun g j hg hj => by rw [hk g _ (by have := hw.b g hg; omega)]; exact h.cb g j hg hj, h.pl, h.ql, h.ne, h.gr.trans (Gr.of_below hB) (fun i h => .inl h)⟩
theorem get_push {ys : List Value} {k i : Nat} {a b c d e : Value} (hl : ys.length = (k + i) * 2) (h1 : ∀ j, j < k → ys[j * 2]? = some a) (h2 : ∀ j, k ≤ j → j < k + i → ys[j * 2]? = some b) : (∀ j, j < k → (ys ++ [b, c])[j * 2]? = some a) ∧ ∀ j, k ≤ j → j < k + (i + 1) → (ys ++ [b, c])[j * 2]? = some b := by
  refine ⟨fun j hj => ?_, fun j hk hj => ?_⟩
  · rw [List.getElem?_append_left (by omega)]
    exact h1 j hj
  · by_cases e : j < k + i
    · rw [List.getElem?_append_left (by omega)]
      exact h2 j hk e
    · rw [List.getElem?_append_right (by omega), show j * 2 - ys.length = 0 by omega]
      rfl
theorem ob_lt {W : World} {base n s g : Nat} {t : TypeId} {v : Value} {ys : List Value} (h : W.ownsRow base t s v n ys) (hg : v.ownBlock = some g) : g < W.heap.size := by
  obtain ⟨c, hc⟩ := own_type h hg
  exact lt_of_heap hc
theorem cell_keep {W W' : World} {g j : Nat} (h : W'.heap[g]? = W.heap[g]?) : W'.cell? ⟨g, j, none⟩ = W.cell? ⟨g, j, none⟩ := World.cell?_of_block (a := ⟨g, j, none⟩) h
/-- What an append leaves. -/
def App (W w' : World) (v v' : Value) : Prop := v'.ownBlock = v.ownBlock ∧ W.grownBy w' v.ownBlock ∨ v'.ownBlock = some W.heap.size ∧ W.grownBy w' none
theorem App.keep {W w' : World} {v v' : Value} {g : Nat} (h : App W w' v v') (hg : g < W.heap.size) (hne : v.ownBlock ≠ some g) : w'.heap[g]? = W.heap[g]? := by
  rcases h with ⟨_, h⟩ | ⟨_, h⟩
  · exact h.block g hg (fun e => hne e.symm)
  · exact h.block g hg (fun e => by cases e)
theorem App.gr {w0 W w' : World} {v v' : Value} {X : Nat → Prop} (h : App W w' v v') (hw : Gr X w0 W) (hx : ∀ g, v.ownBlock = some g → X g ∨ w0.heap.size ≤ g) : Gr X w0 w' := by
  rcases h with ⟨_, h⟩ | ⟨_, h⟩
  · exact hw.trans (Gr.of_grown h (X := fun k => v.ownBlock = some k) (fun k hk => .inl hk)) (fun i hi => hx i hi)
  · exact hw.trans (Gr.of_grown h (X := fun _ => False) (fun k hk => by cases hk)) (fun i hi => hi.elim)
theorem App.size {W w' : World} {v v' : Value} (h : App W w' v v') : W.heap.size ≤ w'.heap.size := by
  rcases h with ⟨_, h⟩ | ⟨_, h⟩ <;> exact h.size
theorem Gro.pushP {w0 W w' : World} {ba bb m4 m6 : Nat} {va vb p q p' : Value} {k i l : Nat} {yp : List Value} (h : Gro w0 W ba bb m4 m6 va vb p q k i l) (hw : Whr w0 m4 m6 va vb) (hyp : (∀ j, j < k → yp[j * 2]? = some (.int .i64 1)) ∧ ∀ j, k ≤ j → j < k + i → yp[j * 2]? = some (.int .i64 3)) (hyl : yp.length = (k + i) * 2)
    (ho : w'.ownsRow ba 44 2 p' (k + i + 1) (yp ++ [.int .i64 3, .slice none 0 0])) (ha : App W w' p p') : Gro w0 w' ba bb m4 m6 va vb p' q k (i + 1) l := by
  have hs := h.gr.size
  have hb := hw.big
  obtain ⟨g1, g2⟩ := get_push (d := undef) (e := undef) (c := .slice none 0 0) hyl hyp.1 hyp.2
  obtain ⟨yq, q1, q2, q3⟩ := h.rq
  have hpx : ∀ g, p.ownBlock = some g → vb.ownBlock ≠ some g := fun g hg => by
    rcases h.pl with e | e
    · exact hw.ne g (e ▸ hg)
    · intro e2
      have := e g hg
      have := hw.b g e2
      omega
  refine ⟨⟨_, by rw [← Nat.add_assoc]; exact ho, g1, g2⟩, ⟨yq, ownsRow_of_block q1 (fun g hg => ha.keep (ob_lt q1 hg) (fun e => h.ne g e hg)), q2, q3⟩, fun g j hg hj => ?_, fun g j hg hj => ?_, ?_, h.ql, ?_, ?_⟩
  · by_cases e : p.ownBlock = some g
    · rcases ha with ⟨e2, _⟩ | ⟨_, hgn⟩
      · exact own_cell2 ho (e2.trans e) (g1 j hj)
      · rw [cell_keep (hgn.block g (by have := hw.a g hg; omega) (fun e => by cases e))]
        exact h.ca g j hg hj
    · rw [cell_keep (ha.keep (by have := hw.a g hg; omega) e)]
      exact h.ca g j hg hj
  · rw [cell_keep (ha.keep (by have := hw.b g hg; omega) (fun e => hpx g e hg))]
    exact h.cb g j hg hj
  · rcases ha with ⟨e2, _⟩ | ⟨e2, _⟩
    · rcases h.pl with e | e
      · exact .inl (e2.trans e)
      · exact .inr (fun g hg => e g (e2 ▸ hg))
    · exact .inr (fun g hg => by rw [e2] at hg; cases hg; exact hs)
  · intro g hg
    rcases ha with ⟨e2, _⟩ | ⟨e2, _⟩
    · exact h.ne g (e2 ▸ hg)
    · intro e3
      rw [e2] at hg
      cases hg
      have := ob_lt q1 e3
      omega
  · refine ha.gr h.gr (fun g hg => ?_)
    rcases h.pl with e | e
    · exact .inl (hw.a g (e ▸ hg))
    · exact .inr (e g hg)
theorem Gro.pushQ {w0 W w' : World} {ba bb m4 m6 : Nat} {va vb p q q' : Value} {k i l : Nat} {yq : List Value} (h : Gro w0 W ba bb m4 m6 va vb p q k i l) (hw : Whr w0 m4 m6 va vb) (hyq : (∀ j, j < k → yq[j * 2]? = some (.int .i64 2)) ∧ ∀ j, k ≤ j → j < k + l → yq[j * 2]? = some (.int .i64 4)) (hyl : yq.length = (k + l) * 2)
    (ho : w'.ownsRow bb 44 2 q' (k + l + 1) (yq ++ [.int .i64 4, .slice none 0 0])) (ha : App W w' q q') : Gro w0 w' ba bb m4 m6 va vb p q' k i (l + 1) := by
  have hs := h.gr.size
  have hb := hw.big
  obtain ⟨g1, g2⟩ := get_push (d := undef) (e := undef) (c := .slice none 0 0) hyl hyq.1 hyq.2
  obtain ⟨yp, p1, p2, p3⟩ := h.rp
  have hqx : ∀ g, q.ownBlock = some g → va.ownBlock ≠ some g := fun g hg => by
    rcases h.ql with e | e
    · exact fun e2 => hw.ne g e2 (e ▸ hg)
    · intro e2
      have := e g hg
      have := hw.a g e2
      omega
  refine ⟨⟨yp, ownsRow_of_block p1 (fun g hg => ha.keep (ob_lt p1 hg) (fun e => h.ne g hg e)), p2, p3⟩, ⟨_, by rw [← Nat.add_assoc]; exact ho, g1, g2⟩, fun g j hg hj => ?_, fun g j hg hj => ?_, h.pl, ?_, ?_, ?_⟩
  · rw [cell_keep (ha.keep (by have := hw.a g hg; omega) (fun e => hqx g e hg))]
    exact h.ca g j hg hj
  · by_cases e : q.ownBlock = some g
    · rcases ha with ⟨e2, _⟩ | ⟨_, hgn⟩
      · exact own_cell2 ho (e2.trans e) (g1 j hj)
      · rw [cell_keep (hgn.block g (by have := hw.b g hg; omega) (fun e => by cases e))]
        exact h.cb g j hg hj
    · rw [cell_keep (ha.keep (by have := hw.b g hg; omega) e)]
      exact h.cb g j hg hj
  · rcases ha with ⟨e2, _⟩ | ⟨e2, _⟩
    · rcases h.ql with e | e
      · exact .inl (e2.trans e)
      · exact .inr (fun g hg => e g (e2 ▸ hg))
    · exact .inr (fun g hg => by rw [e2] at hg; cases hg; exact hs)
  · intro g hg e3
    rcases ha with ⟨e2, _⟩ | ⟨e2, _⟩
    · exact h.ne g hg (e2 ▸ e3)
    · rw [e2] at e3
      cases e3
      have := ob_lt p1 hg
      omega
  · refine ha.gr h.gr (fun g hg => ?_)
    rcases h.ql with e | e
    · exact .inl (hw.b g (e ▸ hg))
    · exact .inr (e g hg)
theorem Ovr.gro {w0 wr : World} {ba bb m4 m6 : Nat} {va vb : Value} {k : Nat} (h : Ovr w0 wr ba bb m4 m6 va vb k k) (hw : Whr w0 m4 m6 va vb) : Gro w0 wr ba bb m4 m6 va vb va vb k 0 0 := by
  obtain ⟨ya, a1, a2⟩ := h.ra
  obtain ⟨yb, b1, b2⟩ := h.rb
  exact ⟨⟨ya, a1, a2, fun j h1 h2 => by omega⟩, ⟨yb, b1, b2, fun j h1 h2 => by omega⟩, fun g j hg hj => own_cell2 a1 hg (a2 j hj), fun g j hg hj => own_cell2 b1 hg (b2 j hj), .inl rfl, .inl rfl, hw.ne, h.gr⟩
theorem set_get {ys : List Value} {k j : Nat} {a c : Value} (hl : ys.length = k * 2) (hj : j < k) (h : ∀ t, t < j → ys[t * 2]? = some a) : ∀ t, t < j + 1 → ((ys.set (j * 2) a).set (j * 2 + 1) c)[t * 2]? = some a := by
  intro t ht
  rw [List.getElem?_set_ne (by omega)]
  by_cases e : t = j
  · subst e
    rw [List.getElem?_set_self (by omega)]
  · rw [List.getElem?_set_ne (by omega)]
    exact h t (by omega)
theorem Ovr.step {w0 wr : World} {ba bb m4 m6 ga gb capa capb : Nat} {k j : Nat} (h : Ovr w0 wr ba bb m4 m6 (.slice (some ⟨ga, 0, none⟩) k capa) (.slice (some ⟨gb, 0, none⟩) k capb) k j) (hw : Whr w0 m4 m6 (.slice (some ⟨ga, 0, none⟩) k capa) (.slice (some ⟨gb, 0, none⟩) k capb)) (hj : j < k) :
    Ovr w0 (set2At (set2At wr ga (j * 2) (.int .i64 1) (.slice none 0 0)) gb (j * 2) (.int .i64 2) (.slice none 0 0)) ba bb m4 m6 (.slice (some ⟨ga, 0, none⟩) k capa) (.slice (some ⟨gb, 0, none⟩) k capb) k (j + 1) := by
  have hne : ga ≠ gb := fun e => hw.ne ga rfl (by rw [e]; rfl)
  obtain ⟨ya, a1, a2⟩ := h.ra
  obtain ⟨yb, b1, b2⟩ := h.rb
  obtain ⟨g1, c1, _, _, e1, _, _, _, _, _, _, s1⟩ := own_set2 a1 hj
  cases e1
  have b3 : (set2At wr ga (j * 2) (.int .i64 1) (.slice none 0 0)).ownsRow bb 44 2 (.slice (some ⟨gb, 0, none⟩) k capb) k yb := ownsRow_of_block b1 (fun g hg => by
    have e : gb = g := by simpa [Value.ownBlock] using hg
    subst e
    exact set2_other (fun e => hne e.symm))
  obtain ⟨g2, c2, _, _, e2, _, _, _, _, _, _, s2⟩ := own_set2 b3 hj
  cases e2
  refine ⟨⟨_, ownsRow_of_block (s1 (.int .i64 1) (.slice none 0 0)) (fun g hg => ?_), set_get a1.1 hj a2⟩, ⟨_, s2 (.int .i64 2) (.slice none 0 0), set_get b1.1 hj b2⟩, ?_⟩
  · have e : ga = g := by simpa [Value.ownBlock] using hg
    subst e
    exact set2_other hne
  · exact (h.gr.trans (set2_gr (X := fun g => m4 ≤ g ∧ g < m6) (hw.a ga rfl)) (fun i h => .inl h)).trans (set2_gr (X := fun g => m4 ≤ g ∧ g < m6) (hw.b gb rfl)) (fun i h => .inl h)
theorem gr_below {w0 wr : World} {m4 m6 : Nat} (h : Gr (fun g => m4 ≤ g ∧ g < m6) w0 wr) (hm : m4 ≤ w0.heap.size) : Below m4 w0 wr :=
  ⟨h.1, h.2.1, h.2.2.1, h.size, fun k hk => h.block (by omega) (by omega)⟩
end Go.Proofs.Ytafmpdljljmddaa
