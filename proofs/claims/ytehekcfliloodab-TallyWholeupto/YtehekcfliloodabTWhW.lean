/- The road of TallyWhole: for every text and every list of numbers of bounded bulk it returns true, and writes nothing that was there. -/
import Derived.Test.YtehekcfliloodabTWm
namespace Go.Proofs.Ytehekcfliloodab
open Go.RowKit
set_option linter.unusedVariables false

theorem hch_len (s : ByteArray) : chn (bl s) = (Cs 0 (bl s)).length := by unfold chn; rw [runesV_len]

namespace tallyWhole
set_option maxRecDepth 100000 in
set_option maxHeartbeats 10000000 in
theorem walk (s : ByteArray) (a : Option Addr) (cap : Nat) (zs : List Int) (w : World) (hz : SlI w a zs) (hb : ∀ z ∈ zs, -9223372036854775808 ≤ z ∧ z ≤ 9223372036854775807) (hs : s.size ≤ 1048576) (hl : zs.length ≤ 1048576) :
    Calls Try.prog 3 #[.string s, .slice a zs.length cap] w fun e w' => e = .returned (.bool true) ∧ Below w.heap.size w w' := by
  have kpl := fun w (h : SlI w a zs) => places_any s a cap zs w h hb hs hl
  have KPL := hide kpl
  have HZ := hide hz
  have ko := fun w => tof_any s w (by omega)
  unfold tyC at ko
  have heq := fun w => eql_ty s.size (chn (bl s)) (lin (bl s)) (hd s) (tl s) s.size (chn (bl s)) (lin (bl s)) (hd s) (tl s) w
  rw [show sameT s.size (chn (bl s)) (lin (bl s)) (hd s) (tl s) s.size (chn (bl s)) (lin (bl s)) (hd s) (tl s) = true from decide_eq_true ⟨rfl, rfl, rfl, rfl, rfl⟩] at heq
  have KO := hide ko
  have HEQ := hide heq
  clear kpl hz ko heq hb
  go_enter Try.func3, Try.ntmps3
  go_upto_region 2 with (go_at_call 5; refine (KPL.out _ HZ.out).mono ?_; rintro e w1 ⟨v, ps, rfl, hpl, hrise, hown, hB1⟩)
  obtain ⟨ap, capp, rfl, hsl⟩ := sli_of_owns hown
  have hpl' : ps.length ≤ 1048576 := by omega
  have kpa := fun w (h : SlI w ap (ps.map (fun (p : Nat) => (p : Int)))) => parts_any s ap capp ps w h hrise hs hpl'
  have hsum := sum_whole s (by omega) ps hrise
  have hchs := chs_whole s ps hrise
  have hplen := pieces_len s 0 ps
  obtain ⟨Q, hQ⟩ : ∃ Q, Q = pieces s 0 ps := ⟨_, rfl⟩
  rw [← hQ] at kpa hsum hchs hplen
  have hQb : ∀ x ∈ Q.map ofT, x.1 ≤ 9223372036854775807 := by
    intro x hx
    obtain ⟨y, hy, rfl⟩ := List.mem_map.1 hx
    have hyb : ∀ (f : Nat) (qs : List Nat), ∀ y ∈ pieces s f qs, y.size ≤ s.size := by
      intro f qs
      induction qs generalizing f with
      | nil => intro y hy; rw [List.mem_singleton.1 hy, ByteArray.size_extract]; omega
      | cons q qs ih =>
        intro y hy
        rcases List.mem_cons.1 hy with rfl | hy
        · rw [ByteArray.size_extract]; omega
        · exact ih q y hy
    have := hyb 0 ps y (hQ ▸ hy)
    show (y.size : Int) ≤ _
    omega
  have hchle := (chn_le (bl s)).1
  have hcl := hch_len s
  rw [bl_len] at hchle
  have KPA := hide kpa
  have HSL := hide hsl
  have HQB := hide hQb
  have HSUM := hide hsum
  have HCL := hide hcl
  obtain ⟨N, hN⟩ : ∃ N, N = ps.length := ⟨_, rfl⟩
  rw [← hN] at hchs hplen hpl' ⊢
  rw [← hN] at KPA
  have HQL := hide hplen
  clear kpa hsl hQb hsum hown hrise hQ hpl KPL HZ hplen hcl
  have ksu := fun (w : World) (g : Nat) (h : SlT w (some ⟨g, 0, none⟩) (Q.map ofT)) => sum_any (some ⟨g, 0, none⟩) (N + 1) (Q.map ofT) w h HQB.out (by rw [List.length_map, HQL.out]; omega)
  rw [List.length_map, HQL.out, HSUM.out] at ksu
  have ksu' : ∀ (w : World) (g : Nat), SlT w (some ⟨g, 0, none⟩) (Q.map ofT) → Calls Try.prog 7 #[.slice (some ⟨g, 0, none⟩) (N + 1) (N + 1)] w fun e w' => e = .returned (.tuple #[.agg #[.int .i64 s.size, .int .i64 (chn (bl s)), .int .i64 (lin (bl s)), .string (hd s), .string (tl s)], .int .i64 0]) ∧ Below w.heap.size w w' := ksu
  have KSU := hide ksu'
  clear ksu ksu' hN HSUM HQB
  generalize ((lin (bl s) : Nat) : Int) = L at *
  generalize hd s = H at *
  generalize tl s = T at *
  generalize chn (bl s) = C at *
  have hNi : (N : Int) ≤ 1048576 := by omega
  have hw1 : IntKind.i64.wrap ((N : Int) + 1) = (N : Int) + 1 := by rw [IntKind.wrap_i64]; omega
  have ne1 : (((N : Int) + 1) != ((N : Int) + 1)) = false := by simp
  have ne2 : (((N + 1 : Nat) : Int) != ((N : Int) + 1)) = false := by simp
  go_wp2_with (first | (go_at_call 6; refine (KPA.out _ HSL.out).mono ?_; rintro e w2 ⟨g, rfl, hown2, hB2⟩; have hst2 := hide (slt_of_owns hown2 (by rw [List.length_map, HQL.out]))) | (go_at_call 7; refine (KSU.out _ g hst2.out).mono ?_; rintro e w3 ⟨rfl, hB3⟩))
  generalize hX : w3.alloc (.cells #[.int .i64 s.size, .int .i64 C, .int .i64 L, .string H, .string T] 29) = X at *
  have hXs : X.heap.size = w3.heap.size + 1 := by rw [← hX]; simp
  have hXr : X.heap[w3.heap.size]? = some (.cells #[.int .i64 s.size, .int .i64 C, .int .i64 L, .string H, .string T] 29 (0, 0)) := by rw [← hX]; exact heap_alloc_new w3 _
  have hX3 : Below w3.heap.size w3 X := by rw [← hX]; exact (Below.refl _ w3).alloc (Nat.le_refl _) _
  have hXB : Below w.heap.size w X := bseq (bseq (bseq hB1 hB2) hB3) hX3
  have hst := (hst2.out.below hB3).below hX3
  generalize w3.heap.size = B8 at *
  have HXR := hide hXr
  have HXB := hide hXB
  have HXS := hide hXs
  have HST := hide hst
  have hcb : chs Q ≤ C + 3 * N := hchs.2
  have hca : C ≤ chs Q := hchs.1
  clear hX hXr hXB hB1 hB2 hB3 hXs hX3 hst hst2 hown2 KPA HSL KSU hchs
  go_loopw [10, 11] (fun c i wr => ∃ k : Nat, wr = X ∧ i = .int .i64 k ∧ k ≤ N + 1 ∧ c = .int .i64 (chs (Q.take k) : Nat)) (fun _ i _ => N + 1 - (intOf i).toNat)
  case atStart => exact ⟨0, rfl, rfl, by omega, rfl⟩
  case round =>
    obtain ⟨k, rfl, rfl, hk, rfl⟩ := hrel
    by_cases hlt : k < N + 1
    · have hkl : k < Q.length := by rw [HQL.out]; exact hlt
      obtain ⟨x, hx⟩ : ∃ x, Q[k]? = some x := ⟨_, List.getElem?_eq_getElem hkl⟩
      have hcell : wr.cell? ⟨g, 0 + k * 5 + 1, none⟩ = some (.int .i64 (chn (bl x) : Nat)) := by
        rcases HST.out with h | ⟨b, off, hbo, _, hc⟩
        · have := congrArg List.length h; rw [List.length_map, List.length_nil] at this; omega
        · cases hbo
          exact (hc k (ofT x) (by rw [List.getElem?_map, hx]; rfl)).2.1
      have hcell2 : wr.cell? ⟨g, k * 5 + 1, none⟩ = some (.int .i64 (chn (bl x) : Nat)) := by rw [← Nat.zero_add (k * 5)]; exact hcell
      have htk : chs (Q.take (k + 1)) = chs (Q.take k) + chn (bl x) := by
        rw [List.take_add_one, hx, chs_append]
        show _ + (chn (bl x) + 0) = _
        omega
      have htl : chs (Q.take (k + 1)) ≤ chs Q := by
        have := chs_append (Q.take (k + 1)) (Q.drop (k + 1))
        rw [List.take_append_drop] at this
        omega
      obtain ⟨Y1, hY1⟩ : ∃ Y1, Y1 = chs (Q.take (k + 1)) := ⟨_, rfl⟩
      rw [← hY1] at htk htl
      have HY1 := hide hY1
      clear hY1
      generalize chs (Q.take k) = Y0 at *
      generalize chn (bl x) = cx at *
      have hlt' : (k : Int) < (N : Int) + 1 := by omega
      have hlt'' : (k : Int) < ((N + 1 : Nat) : Int) := by omega
      have hw2 : IntKind.i64.wrap ((Y0 : Int) + (cx : Int)) = (Y1 : Int) := by rw [IntKind.wrap_i64]; omega
      have HTK := hide htk
      clear htk htl hx hcb hca
      go_wp2_with (fail)
      go_roundw
      case rel => exact ⟨k + 1, (by first | trivial | rfl), by go_num, by omega, by rw [← HY1.out]⟩
      case measure => simp [intOf]; omega
    · have hkN : k = N + 1 := by omega
      subst hkN
      have htq : Q.take (N + 1) = Q := List.take_of_length_le (by rw [HQL.out]; exact Nat.le_refl _)
      rw [htq]
      generalize chs Q = Y at *
      clear htq hlt hk HST HQL
      generalize wr = X at *
      have hge : ((N + 1 : Nat) : Int) ≤ ((N + 1 : Nat) : Int) := by omega
      go_wp2_with (fail)
      go_loopw [12] (fun n w' => ∃ pos k2 : Nat, w' = X.iter s pos ∧ n = .int .i64 k2 ∧ pos ≤ s.size ∧ k2 ≤ pos ∧ k2 + (Cs pos ((bl s).drop pos)).length = C) (fun _ w' => s.size - w'.iterPos X.heap.size)
      case atStart => exact ⟨0, 0, rfl, rfl, by omega, by omega, by rw [HCL.out]; simp⟩
      case round =>
        obtain ⟨pos, k2, rfl, rfl, hp, hk, hl2⟩ := hrel
        have HL := hide hl2
        clear hl2
        by_cases hlt : pos < s.size
        · have hnx : ∀ ty, (Instr.next (.pointer (some ⟨X.heap.size, 0, none⟩)) true ty).run Try.prog (X.iter s pos) = _ := fun ty => next_in X s pos ty hlt
          have h1 := cw_pos ((bl s).drop pos)
          have h2 := cw_len _ (bl_drop_ne hlt)
          rw [List.length_drop, bl_len] at h2
          have h3 : (Cs pos ((bl s).drop pos)).length = 1 + (Cs (pos + cw ((bl s).drop pos)) ((bl s).drop (pos + cw ((bl s).drop pos)))).length := by
            rw [Cs_cons _ _ (bl_drop_ne hlt), List.drop_drop, List.length_cons]; omega
          have H3 := hide h3
          clear h3
          go_wp2
          go_roundw
          case rel => exact ⟨_, k2 + 1, rfl, by go_num, by omega, by omega, by have := HL.out; have := H3.out; omega⟩
          case measure => simp; omega
        · have hnx : ∀ ty, (Instr.next (.pointer (some ⟨X.heap.size, 0, none⟩)) true ty).run Try.prog (X.iter s pos) = _ := fun ty => run_next_end X s pos ty hlt
          have h3 : (bl s).drop pos = [] := List.drop_eq_nil_of_le (by rw [bl_len]; omega)
          have hkC : k2 = C := by
            have := HL.out
            rw [h3, Cs_nil] at this
            simpa using this
          subst hkC
          clear h3
          have mk : ∀ W, Below X.heap.size X W → (Below X.heap.size X W ∧ W.cell? ⟨B8, 0, none⟩ = some (.int .i64 s.size) ∧ W.cell? ⟨B8, 1, none⟩ = some (.int .i64 k2) ∧ W.cell? ⟨B8, 2, none⟩ = some (.int .i64 L) ∧ W.cell? ⟨B8, 3, none⟩ = some (.string H) ∧ W.cell? ⟨B8, 4, none⟩ = some (.string T)) := fun W hB => ⟨hB, box_at (row_keep HXR.out hB)⟩
          have MK := hide mk
          clear mk
          have g1 : decide ((k2 : Int) ≤ (Y : Int)) = true := decide_eq_true (by omega)
          have hw3 : IntKind.i64.wrap (3 * (N : Int)) = 3 * (N : Int) := by rw [IntKind.wrap_i64]; omega
          have hw4 : IntKind.i64.wrap ((k2 : Int) + 3 * (N : Int)) = (k2 : Int) + 3 * (N : Int) := by rw [IntKind.wrap_i64]; omega
          have g2 : decide ((Y : Int) ≤ (k2 : Int) + 3 * (N : Int)) = true := decide_eq_true (by omega)
          have q1 : ((k2 : Int) == (k2 : Int)) = true := by simp
          go_wp2_with (fail)
          have hg := Try.noGuard29
          have heq := HEQ.out
          go_region_held3 (fun w' => Below X.heap.size X w' ∧ w'.cell? ⟨B8, 0, none⟩ = some (.int .i64 s.size) ∧ w'.cell? ⟨B8, 1, none⟩ = some (.int .i64 k2) ∧ w'.cell? ⟨B8, 2, none⟩ = some (.int .i64 L) ∧ w'.cell? ⟨B8, 3, none⟩ = some (.string H) ∧ w'.cell? ⟨B8, 4, none⟩ = some (.string T)) (first | exact MK.out _ (((Below.refl _ X).alloc (Nat.le_refl _) _).drew) | exact MK.out _ hW2 | exact MK.out _ hW4) (first | (go_at_call 8; refine (KO.out _).mono ?_; rintro e w2 ⟨rfl, hB2⟩; have hW2 : Below X.heap.size X w2 := bseq (((Below.refl _ X).alloc (Nat.le_refl _) _).drew) hB2) | (go_at_call 9; refine (works_any _).mono ?_; rintro e w4 ⟨rfl, hB4⟩; have hW4 : Below X.heap.size X w4 := bseq hW2 hB4))
          go_wp2
          go_ret
          exact ⟨rfl, bseq HXB.out hW4⟩
end tallyWhole
end Go.Proofs.Ytehekcfliloodab
