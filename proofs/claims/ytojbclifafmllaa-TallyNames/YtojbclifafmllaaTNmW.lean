/- The road of TallyNames: it returns true, and writes nothing that was there. -/
import Derived.Test.YtojbclifafmllaaTSs2
import Derived.Test.YtojbclifafmllaaTJm
namespace Go.Proofs.Ytojbclifafmllaa
open Go.RowKit
set_option linter.unusedVariables false

theorem pair_of (a b : ByteArray) (h : a.size + b.size ≤ 1000) : ∃ (ab ac al : Int) (ah at' : ByteArray) (bb bc bl' : Int) (bh bt : ByteArray) (sb sc sl : Int) (sh st : ByteArray),
    (∀ w, Calls Try.prog 6 #[.string a] w fun e w' => e = .returned (.agg #[.int .i64 ab, .int .i64 ac, .int .i64 al, .string ah, .string at']) ∧ Below w.heap.size w w') ∧
    (∀ w, Calls Try.prog 6 #[.string b] w fun e w' => e = .returned (.agg #[.int .i64 bb, .int .i64 bc, .int .i64 bl', .string bh, .string bt]) ∧ Below w.heap.size w w') ∧
    (∀ w, Calls Try.prog 6 #[.string (a ++ b)] w fun e w' => e = .returned (.agg #[.int .i64 sb, .int .i64 sc, .int .i64 sl, .string sh, .string st]) ∧ Below w.heap.size w w') ∧
    (∀ w, Calls Try.prog 7 #[.string a] w fun e w' => e = .returned (.agg #[.int .i64 ab, .int .i64 ac, .int .i64 al, .string ah, .string at']) ∧ Below w.heap.size w w') ∧
    (∀ w, Calls Try.prog 7 #[.string b] w fun e w' => e = .returned (.agg #[.int .i64 bb, .int .i64 bc, .int .i64 bl', .string bh, .string bt]) ∧ Below w.heap.size w w') ∧
    (∀ w, Calls Try.prog 7 #[.string (a ++ b)] w fun e w' => e = .returned (.agg #[.int .i64 sb, .int .i64 sc, .int .i64 sl, .string sh, .string st]) ∧ Below w.heap.size w w') ∧
    (∀ w, Calls Try.prog 5 #[(.agg #[.int .i64 ab, .int .i64 ac, .int .i64 al, .string ah, .string at']), (.agg #[.int .i64 bb, .int .i64 bc, .int .i64 bl', .string bh, .string bt])] w fun e w' => e = .returned (.tuple #[(.agg #[.int .i64 sb, .int .i64 sc, .int .i64 sl, .string sh, .string st]), .int .i64 0]) ∧ Below w.heap.size w w') ∧
    (∀ w, Calls Try.prog 8 #[(.agg #[.int .i64 ab, .int .i64 ac, .int .i64 al, .string ah, .string at']), (.agg #[.int .i64 bb, .int .i64 bc, .int .i64 bl', .string bh, .string bt])] w fun e w' => e = .returned (.bool true) ∧ Below w.heap.size w w') :=
  ⟨a.size, chn (bl a), lin (bl a), hd a, tl a, b.size, chn (bl b), lin (bl b), hd b, tl b, (a ++ b).size, chn (bl (a ++ b)), lin (bl (a ++ b)), hd (a ++ b), tl (a ++ b),
    fun w => tof_any a w (by omega), fun w => tof_any b w (by omega), fun w => tof_any (a ++ b) w (by rw [ByteArray.size_append]; omega),
    fun w => refOf_any a w (by omega), fun w => refOf_any b w (by omega), fun w => refOf_any (a ++ b) w (by rw [ByteArray.size_append]; omega),
    fun w => join_of a b w (by omega), fun w => joins_any _ _ _ _ _ _ _ _ _ _ w (by omega) (by omega)⟩
theorem ofAgg (s : ByteArray) (h : s.size ≤ 1000) : ∃ (b c l : Int) (h' t : ByteArray), b ≤ 1000 ∧ ∀ w, Calls Try.prog 7 #[.string s] w fun e w' => e = .returned (.agg #[.int .i64 b, .int .i64 c, .int .i64 l, .string h', .string t]) ∧ Below w.heap.size w w' :=
  ⟨s.size, chn (bl s), lin (bl s), hd s, tl s, by omega, fun w => refOf_any s w (by omega)⟩
theorem slt_two (w : World) (ab ac al : Int) (ah at' : ByteArray) (bb bc bl' : Int) (bh bt : ByteArray) (W : World) (h : W.heap[w.heap.size]? = some (.cells #[.int .i64 ab, .int .i64 ac, .int .i64 al, .string ah, .string at', .int .i64 bb, .int .i64 bc, .int .i64 bl', .string bh, .string bt] 24 (0, 0))) :
    SlT W (some ⟨w.heap.size, 0, none⟩) [(ab, ac, al, ah, at'), (bb, bc, bl', bh, bt)] := by
  refine .inr ⟨_, 0, rfl, (Array.getElem?_eq_some_iff.1 h).1, fun i x hx => ?_⟩
  match i, hx with
  | 0, hx => cases hx; exact ⟨cell_of h 0 _ rfl, cell_of h 1 _ rfl, cell_of h 2 _ rfl, cell_of h 3 _ rfl, cell_of h 4 _ rfl⟩
  | 1, hx => cases hx; exact ⟨cell_of h 5 _ rfl, cell_of h 6 _ rfl, cell_of h 7 _ rfl, cell_of h 8 _ rfl, cell_of h 9 _ rfl⟩
theorem sums_two (g : Nat) (w : World) (ab ac al : Int) (ah at' : ByteArray) (bb bc bl' : Int) (bh bt : ByteArray) (h1 : ab ≤ 9223372036854775807) (h2 : bb ≤ 9223372036854775807) (h : SlT w (some ⟨g, 0, none⟩) [(ab, ac, al, ah, at'), (bb, bc, bl', bh, bt)]) :
    Calls Try.prog 9 #[.slice (some ⟨g, 0, none⟩) 2 2] w fun e w' => e = .returned (.bool true) ∧ Below w.heap.size w w' := by
  have k := tallySums.walk (some ⟨g, 0, none⟩) 2 [(ab, ac, al, ah, at'), (bb, bc, bl', bh, bt)] w h (fun x hx => by
    rcases List.mem_cons.1 hx with rfl | hx
    · exact h1
    · rcases List.mem_cons.1 hx with rfl | hx
      · exact h2
      · cases hx) (by show 2 ≤ 2513169434843; omega)
  exact k

namespace tallyNames
set_option maxRecDepth 100000 in
set_option maxHeartbeats 4000000 in
theorem walk (w : World) :
    Calls Try.prog 3 #[] w fun e w' => e = .returned (.bool true) ∧ Below w.heap.size w w' := by
  go_enter Try.func3, Try.ntmps3
  go_upto_region 2 with (fail)
  have hc : ∀ i, i < 23 → ∃ t : ByteArray, t.size ≤ 9 ∧ (w.alloc (.cells #[.string ⟨#[]⟩, .string ⟨#[97]⟩, .string ⟨#[13]⟩, .string ⟨#[10]⟩, .string ⟨#[13, 10]⟩, .string ⟨#[10, 13]⟩, .string ⟨#[194, 133]⟩, .string ⟨#[194]⟩, .string ⟨#[133]⟩, .string ⟨#[226, 128]⟩, .string ⟨#[168]⟩, .string ⟨#[169]⟩, .string ⟨#[237, 160]⟩, .string ⟨#[128]⟩, .string ⟨#[240, 159]⟩, .string ⟨#[152, 128]⟩, .string ⟨#[244, 144]⟩, .string ⟨#[255]⟩, .string ⟨#[239, 191, 189]⟩, .string ⟨#[244, 143, 191, 191]⟩, .string ⟨#[224, 128]⟩, .string ⟨#[192, 138]⟩, .string ⟨#[97, 98, 99, 100, 101, 102, 103]⟩] 9)).cell? ⟨w.heap.size, i, none⟩ = some (.string t) := by
    intro i hi
    have h := heap_alloc_new w (.cells #[.string ⟨#[]⟩, .string ⟨#[97]⟩, .string ⟨#[13]⟩, .string ⟨#[10]⟩, .string ⟨#[13, 10]⟩, .string ⟨#[10, 13]⟩, .string ⟨#[194, 133]⟩, .string ⟨#[194]⟩, .string ⟨#[133]⟩, .string ⟨#[226, 128]⟩, .string ⟨#[168]⟩, .string ⟨#[169]⟩, .string ⟨#[237, 160]⟩, .string ⟨#[128]⟩, .string ⟨#[240, 159]⟩, .string ⟨#[152, 128]⟩, .string ⟨#[244, 144]⟩, .string ⟨#[255]⟩, .string ⟨#[239, 191, 189]⟩, .string ⟨#[244, 143, 191, 191]⟩, .string ⟨#[224, 128]⟩, .string ⟨#[192, 138]⟩, .string ⟨#[97, 98, 99, 100, 101, 102, 103]⟩] 9)
    match i, hi with
    | 0, _ => exact ⟨_, by decide, cell_of h 0 _ rfl⟩
    | 1, _ => exact ⟨_, by decide, cell_of h 1 _ rfl⟩
    | 2, _ => exact ⟨_, by decide, cell_of h 2 _ rfl⟩
    | 3, _ => exact ⟨_, by decide, cell_of h 3 _ rfl⟩
    | 4, _ => exact ⟨_, by decide, cell_of h 4 _ rfl⟩
    | 5, _ => exact ⟨_, by decide, cell_of h 5 _ rfl⟩
    | 6, _ => exact ⟨_, by decide, cell_of h 6 _ rfl⟩
    | 7, _ => exact ⟨_, by decide, cell_of h 7 _ rfl⟩
    | 8, _ => exact ⟨_, by decide, cell_of h 8 _ rfl⟩
    | 9, _ => exact ⟨_, by decide, cell_of h 9 _ rfl⟩
    | 10, _ => exact ⟨_, by decide, cell_of h 10 _ rfl⟩
    | 11, _ => exact ⟨_, by decide, cell_of h 11 _ rfl⟩
    | 12, _ => exact ⟨_, by decide, cell_of h 12 _ rfl⟩
    | 13, _ => exact ⟨_, by decide, cell_of h 13 _ rfl⟩
    | 14, _ => exact ⟨_, by decide, cell_of h 14 _ rfl⟩
    | 15, _ => exact ⟨_, by decide, cell_of h 15 _ rfl⟩
    | 16, _ => exact ⟨_, by decide, cell_of h 16 _ rfl⟩
    | 17, _ => exact ⟨_, by decide, cell_of h 17 _ rfl⟩
    | 18, _ => exact ⟨_, by decide, cell_of h 18 _ rfl⟩
    | 19, _ => exact ⟨_, by decide, cell_of h 19 _ rfl⟩
    | 20, _ => exact ⟨_, by decide, cell_of h 20 _ rfl⟩
    | 21, _ => exact ⟨_, by decide, cell_of h 21 _ rfl⟩
    | 22, _ => exact ⟨_, by decide, cell_of h 22 _ rfl⟩
    | n + 23, h => omega
  have hBA : Below w.heap.size w (w.alloc (.cells #[.string ⟨#[]⟩, .string ⟨#[97]⟩, .string ⟨#[13]⟩, .string ⟨#[10]⟩, .string ⟨#[13, 10]⟩, .string ⟨#[10, 13]⟩, .string ⟨#[194, 133]⟩, .string ⟨#[194]⟩, .string ⟨#[133]⟩, .string ⟨#[226, 128]⟩, .string ⟨#[168]⟩, .string ⟨#[169]⟩, .string ⟨#[237, 160]⟩, .string ⟨#[128]⟩, .string ⟨#[240, 159]⟩, .string ⟨#[152, 128]⟩, .string ⟨#[244, 144]⟩, .string ⟨#[255]⟩, .string ⟨#[239, 191, 189]⟩, .string ⟨#[244, 143, 191, 191]⟩, .string ⟨#[224, 128]⟩, .string ⟨#[192, 138]⟩, .string ⟨#[97, 98, 99, 100, 101, 102, 103]⟩] 9)) := (Below.refl _ w).alloc (Nat.le_refl _) _
  have hlA : w.heap.size < (w.alloc (.cells #[.string ⟨#[]⟩, .string ⟨#[97]⟩, .string ⟨#[13]⟩, .string ⟨#[10]⟩, .string ⟨#[13, 10]⟩, .string ⟨#[10, 13]⟩, .string ⟨#[194, 133]⟩, .string ⟨#[194]⟩, .string ⟨#[133]⟩, .string ⟨#[226, 128]⟩, .string ⟨#[168]⟩, .string ⟨#[169]⟩, .string ⟨#[237, 160]⟩, .string ⟨#[128]⟩, .string ⟨#[240, 159]⟩, .string ⟨#[152, 128]⟩, .string ⟨#[244, 144]⟩, .string ⟨#[255]⟩, .string ⟨#[239, 191, 189]⟩, .string ⟨#[244, 143, 191, 191]⟩, .string ⟨#[224, 128]⟩, .string ⟨#[192, 138]⟩, .string ⟨#[97, 98, 99, 100, 101, 102, 103]⟩] 9)).heap.size := by simp
  generalize w.alloc (.cells #[.string ⟨#[]⟩, .string ⟨#[97]⟩, .string ⟨#[13]⟩, .string ⟨#[10]⟩, .string ⟨#[13, 10]⟩, .string ⟨#[10, 13]⟩, .string ⟨#[194, 133]⟩, .string ⟨#[194]⟩, .string ⟨#[133]⟩, .string ⟨#[226, 128]⟩, .string ⟨#[168]⟩, .string ⟨#[169]⟩, .string ⟨#[237, 160]⟩, .string ⟨#[128]⟩, .string ⟨#[240, 159]⟩, .string ⟨#[152, 128]⟩, .string ⟨#[244, 144]⟩, .string ⟨#[255]⟩, .string ⟨#[239, 191, 189]⟩, .string ⟨#[244, 143, 191, 191]⟩, .string ⟨#[224, 128]⟩, .string ⟨#[192, 138]⟩, .string ⟨#[97, 98, 99, 100, 101, 102, 103]⟩] 9) = A at *
  have HC := hide hc
  have HBA := hide hBA
  clear hc hBA
  go_wp2
  go_loopw [2] (fun q w' => ∃ i : Nat, q = .int .i64 (i : Int) ∧ i ≤ 23 ∧ Below A.heap.size A w') (fun q _ => (23 - intOf q).toNat)
  case atStart => exact ⟨0, rfl, by omega, Below.refl _ _⟩
  case round =>
    obtain ⟨i, rfl, hi, hB⟩ := hrel
    by_cases hlt : i < 23
    · have hltI : (i : Int) < 23 := by omega
      obtain ⟨a, ha, hca⟩ := HC.out i hlt
      have HB := hide hB
      clear hB
      go_wp2
      go_loopw [3] (fun q w' => ∃ k : Nat, q = .int .i64 (k : Int) ∧ k ≤ 23 ∧ Below A.heap.size A w') (fun q _ => (23 - intOf q).toNat)
      case atStart => exact ⟨0, rfl, by omega, HB.out⟩
      case round =>
        clear HB
        obtain ⟨k, rfl, hk, hB⟩ := hrel
        by_cases hkl : k < 23
        · have hkI : (k : Int) < 23 := by omega
          obtain ⟨b, hb, hcb⟩ := HC.out k hkl
          obtain ⟨ab, ac, al, ah, at', bb, bc, bl', bh, bt, sb, sc, sl, sh, st, ko1, ko2, ko3, kr1, kr2, kr3, kj, kt⟩ := pair_of a b (by omega)
          have mk : ∀ W, Below wr.heap.size wr W → (Below wr.heap.size wr W ∧ W.cell? ⟨w.heap.size, i, none⟩ = some (.string a) ∧ W.cell? ⟨w.heap.size, k, none⟩ = some (.string b)) := fun W hW => ⟨hW, cell_below hca (hB.trans (hW.mono hB.size)) hlA, cell_below hcb (hB.trans (hW.mono hB.size)) hlA⟩
          have KO1 := hide ko1
          have KO2 := hide ko2
          have KO3 := hide ko3
          have KR1 := hide kr1
          have KR2 := hide kr2
          have KR3 := hide kr3
          have KJ := hide kj
          have KT := hide kt
          have MK := hide mk
          have HB := hide hB
          have ad := fun w => run_string_add_sum (P := Try.prog) w a b (by omega)
          obtain ⟨_, s0, s1⟩ := mk _ (Below.refl _ _)
          have hS0 := mk _ (Below.refl _ wr).drew.drew
          have HS0 := hide hS0
          clear ko1 ko2 ko3 kr1 kr2 kr3 kj kt mk hB hca hcb ha hb hS0
          go_upto_region 8 with (fail)
          go_region_held3 (fun W => Below wr.heap.size wr W ∧ W.cell? ⟨w.heap.size, i, none⟩ = some (.string a) ∧ W.cell? ⟨w.heap.size, k, none⟩ = some (.string b)) (exact MK.out _ (Below.refl _ _).drew) (fail)
          go_upto_region 9 with (fail)
          go_cut [5, 6] (fun p e wx => ∃ B5 : Nat, p = .pointer (some ⟨B5, 0, none⟩) ∧ e = .int .i64 0 ∧ wr.heap.size ≤ B5 ∧ wx.heap[B5]? = some (.cells #[.int .i64 sb, .int .i64 sc, .int .i64 sl, .string sh, .string st] 24 (0, 0)) ∧ Below wr.heap.size wr wx)
          case first =>
            refine wp_region_held_drew (S := fun W => Below wr.heap.size wr W ∧ W.cell? ⟨w.heap.size, i, none⟩ = some (.string a) ∧ W.cell? ⟨w.heap.size, k, none⟩ = some (.string b)) (by kernel_rfl) (by first | exact HS0.out | exact MK.out _ (Below.refl _ wr).drew) (fun hS => ?_)
            refine wpAnyH_take (i := 0) (v := .slice (some ⟨w.heap.size, 0, none⟩) 23 23) rfl (by kernel_rfl) (by kernel_rfl) (by kernel_rfl) (fun _ _ _ h => h) (Or.inl ⟨by kernel_rfl, fun w' hw => by (obtain ⟨_, z0, z1⟩ := hw; go_simp)⟩) hS ?_
            refine wpAnyH_take (i := 1) (v := .int .i64 (i : Int)) rfl (by kernel_rfl) (by kernel_rfl) (by kernel_rfl) (fun _ _ _ h => h) (Or.inl ⟨by kernel_rfl, fun w' hw => by (obtain ⟨_, z0, z1⟩ := hw; go_simp)⟩) hS ?_
            refine wpAnyH_take (i := 2) (v := .pointer (some ⟨w.heap.size, i, none⟩)) rfl (by kernel_rfl) (by kernel_rfl) (by kernel_rfl) (fun _ _ _ h => h) (Or.inl ⟨by kernel_rfl, fun w' hw => by (obtain ⟨_, z0, z1⟩ := hw; go_simp)⟩) hS ?_
            refine wpAnyH_take (i := 3) (v := .string a) rfl (by kernel_rfl) (by kernel_rfl) (by kernel_rfl) (fun _ _ _ h => h) (Or.inl ⟨by kernel_rfl, fun w' hw => by (obtain ⟨_, z0, z1⟩ := hw; go_simp)⟩) hS ?_
            refine wpAnyH_take (i := 5) (v := .slice (some ⟨w.heap.size, 0, none⟩) 23 23) rfl (by kernel_rfl) (by kernel_rfl) (by kernel_rfl) (fun _ _ _ h => h) (Or.inl ⟨by kernel_rfl, fun w' hw => by (obtain ⟨_, z0, z1⟩ := hw; go_simp)⟩) hS ?_
            refine wpAnyH_take (i := 6) (v := .int .i64 (k : Int)) rfl (by kernel_rfl) (by kernel_rfl) (by kernel_rfl) (fun _ _ _ h => h) (Or.inl ⟨by kernel_rfl, fun w' hw => by (obtain ⟨_, z0, z1⟩ := hw; go_simp)⟩) hS ?_
            refine wpAnyH_take (i := 7) (v := .pointer (some ⟨w.heap.size, k, none⟩)) rfl (by kernel_rfl) (by kernel_rfl) (by kernel_rfl) (fun _ _ _ h => h) (Or.inl ⟨by kernel_rfl, fun w' hw => by (obtain ⟨_, z0, z1⟩ := hw; go_simp)⟩) hS ?_
            refine wpAnyH_take (i := 8) (v := .string b) rfl (by kernel_rfl) (by kernel_rfl) (by kernel_rfl) (fun _ _ _ h => h) (Or.inl ⟨by kernel_rfl, fun w' hw => by (obtain ⟨_, z0, z1⟩ := hw; go_simp)⟩) hS ?_
            refine wpAnyH_ready (rs := [4, 14]) (by kernel_rfl) (by simp) ?_
            refine AllReadyH.cons rfl (fun K hK => ?_) (AllReadyH.cons rfl (fun K hK => ?_) AllReadyH.nil)
            · rw [if_pos (by kernel_rfl)]
              go_simp
              go_wp2_with (go_at_call 6; refine (KO1.out _).mono ?_; rintro e w1 ⟨rfl, hB1⟩)
              have hW1 : Below wr.heap.size wr w1 := bseq (Below.refl wr.heap.size wr).drew.drew hB1
              refine hK.out _ _ (MK.out _ hW1) (fun hS1 => ?_)
              refine wpAnyH_ready (rs := [9, 14]) (by kernel_rfl) (by simp) ?_
              refine AllReadyH.cons rfl (fun K hK => ?_) (AllReadyH.cons rfl (fun K hK => ?_) AllReadyH.nil)
              · rw [if_pos (by kernel_rfl)]
                go_simp
                go_wp2_with (go_at_call 6; refine (KO2.out _).mono ?_; rintro e w2 ⟨rfl, hB2⟩)
                have hW2 : Below wr.heap.size wr w2 := bseq hW1 hB2
                refine hK.out _ _ (MK.out _ hW2) (fun hS2 => ?_)
                refine wpAnyH_ready (rs := [10, 14]) (by kernel_rfl) (by simp) ?_
                refine AllReadyH.cons rfl (fun K hK => ?_) (AllReadyH.cons rfl (fun K hK => ?_) AllReadyH.nil)
                · rw [if_pos (by kernel_rfl)]
                  go_simp
                  go_wp2_with (go_at_call 5; refine (KJ.out _).mono ?_; rintro e w3 ⟨rfl, hB3⟩)
                  have hW3 : Below wr.heap.size wr w3 := bseq hW2 hB3
                  refine hK.out _ _ (MK.out _ hW3) (fun hS3 => ?_)
                  refine wpAnyH_take (i := 11) (v := .tuple #[(.agg #[.int .i64 sb, .int .i64 sc, .int .i64 sl, .string sh, .string st]), .int .i64 0]) rfl (by kernel_rfl) (by kernel_rfl) (by kernel_rfl) (fun _ _ _ h => h) (Or.inl ⟨by kernel_rfl, fun w' hw => by (clear hw; go_simp)⟩) hS3 ?_
                  refine wpAnyH_take (i := 12) (v := (.agg #[.int .i64 sb, .int .i64 sc, .int .i64 sl, .string sh, .string st])) rfl (by kernel_rfl) (by kernel_rfl) (by kernel_rfl) (fun _ _ _ h => h) (Or.inl ⟨by kernel_rfl, fun w' hw => by (clear hw; go_simp)⟩) hS3 ?_
                  refine wpAnyH_take (i := 13) (v := .int .i64 0) rfl (by kernel_rfl) (by kernel_rfl) (by kernel_rfl) (fun _ _ _ h => h) (Or.inl ⟨by kernel_rfl, fun w' hw => by (clear hw; go_simp)⟩) hS3 ?_
                  refine wpAnyH_ready (rs := [14]) (by kernel_rfl) (by simp) ?_
                  refine AllReadyH.cons rfl (fun K hK => ?_) AllReadyH.nil
                  rw [if_pos (by kernel_rfl)]
                  go_simp
                  refine hK.out _ _ (MK.out _ ((hW3).alloc (hW3).size _)) (fun hSa => ?_)
                  refine wpAnyH_ready (rs := [15]) (by kernel_rfl) (by simp) ?_
                  refine AllReadyH.cons rfl (fun K hK => ?_) AllReadyH.nil
                  rw [if_pos (by kernel_rfl)]
                  go_simp
                  refine hK.out _ _ (MK.out _ ((hW3).alloc (hW3).size _)) (fun hSf => ?_)
                  refine wpAnyH_take (i := 16) (v := .int .i64 0) rfl (by kernel_rfl) (by kernel_rfl) (by kernel_rfl) (fun _ _ _ h => h) (Or.inl ⟨by kernel_rfl, fun w' hw => by (clear hw; go_simp)⟩) hSf ?_
                  refine wpAnyH_done (by kernel_rfl) ?_ _
                  go_wp2
                  go_meet
                  exact ⟨_, rfl, rfl, (hW3).size, heap_alloc_new _ _, (hW3).alloc (hW3).size _⟩
                · rw [if_pos (by kernel_rfl)]
                  go_simp
                  refine hK.out _ _ (MK.out _ ((hW2).alloc (hW2).size _)) (fun hSa => ?_)
                  refine wpAnyH_ready (rs := [10]) (by kernel_rfl) (by simp) ?_
                  refine AllReadyH.cons rfl (fun K hK => ?_) AllReadyH.nil
                  rw [if_pos (by kernel_rfl)]
                  go_simp
                  go_wp2_with (go_at_call 5; refine (KJ.out _).mono ?_; rintro e w3 ⟨rfl, hB3⟩)
                  have hW3 : Below wr.heap.size wr w3 := bseq ((hW2).alloc (hW2).size _) hB3
                  have hz3 : w3.heap[w2.heap.size]? = some (.cells #[.int .i64 0, .int .i64 0, .int .i64 0, .string ⟨#[]⟩, .string ⟨#[]⟩] 24 (0, 0)) := by rw [hB3.block _ (by simp)]; exact heap_alloc_new _ _
                  refine hK.out _ _ (MK.out _ hW3) (fun hS3 => ?_)
                  refine wpAnyH_take (i := 11) (v := .tuple #[(.agg #[.int .i64 sb, .int .i64 sc, .int .i64 sl, .string sh, .string st]), .int .i64 0]) rfl (by kernel_rfl) (by kernel_rfl) (by kernel_rfl) (fun _ _ _ h => h) (Or.inl ⟨by kernel_rfl, fun w' hw => by (clear hw; go_simp)⟩) hS3 ?_
                  refine wpAnyH_take (i := 12) (v := (.agg #[.int .i64 sb, .int .i64 sc, .int .i64 sl, .string sh, .string st])) rfl (by kernel_rfl) (by kernel_rfl) (by kernel_rfl) (fun _ _ _ h => h) (Or.inl ⟨by kernel_rfl, fun w' hw => by (clear hw; go_simp)⟩) hS3 ?_
                  refine wpAnyH_take (i := 13) (v := .int .i64 0) rfl (by kernel_rfl) (by kernel_rfl) (by kernel_rfl) (fun _ _ _ h => h) (Or.inl ⟨by kernel_rfl, fun w' hw => by (clear hw; go_simp)⟩) hS3 ?_
                  obtain ⟨⟨d0, d1, d2, d3, d4⟩, ⟨f0, f1, f2, f3, f4⟩, R, _, BB⟩ := chain5 hz3 (.int .i64 sb) (.int .i64 sc) (.int .i64 sl) (.string sh) (.string st)
                  have HR := hide R
                  have HBB := hide BB
                  clear R BB
                  refine wpAnyH_ready (rs := [15]) (by kernel_rfl) (by simp) ?_
                  refine AllReadyH.cons rfl (fun K hK => ?_) AllReadyH.nil
                  rw [if_pos (by kernel_rfl)]
                  go_simp
                  refine hK.out _ _ (MK.out _ (HBB.out _ _ (hW2).size hW3)) (fun hSf => ?_)
                  refine wpAnyH_take (i := 16) (v := .int .i64 0) rfl (by kernel_rfl) (by kernel_rfl) (by kernel_rfl) (fun _ _ _ h => h) (Or.inl ⟨by kernel_rfl, fun w' hw => by (clear hw; go_simp)⟩) hSf ?_
                  refine wpAnyH_done (by kernel_rfl) ?_ _
                  go_wp2
                  go_meet
                  exact ⟨_, rfl, rfl, (hW2).size, HR.out, HBB.out _ _ (hW2).size hW3⟩
              · rw [if_pos (by kernel_rfl)]
                go_simp
                refine hK.out _ _ (MK.out _ ((hW1).alloc (hW1).size _)) (fun hSa => ?_)
                refine wpAnyH_ready (rs := [9]) (by kernel_rfl) (by simp) ?_
                refine AllReadyH.cons rfl (fun K hK => ?_) AllReadyH.nil
                rw [if_pos (by kernel_rfl)]
                go_simp
                go_wp2_with (go_at_call 6; refine (KO2.out _).mono ?_; rintro e w2 ⟨rfl, hB2⟩)
                have hW2 : Below wr.heap.size wr w2 := bseq ((hW1).alloc (hW1).size _) hB2
                have hz2 : w2.heap[w1.heap.size]? = some (.cells #[.int .i64 0, .int .i64 0, .int .i64 0, .string ⟨#[]⟩, .string ⟨#[]⟩] 24 (0, 0)) := by rw [hB2.block _ (by simp)]; exact heap_alloc_new _ _
                refine hK.out _ _ (MK.out _ hW2) (fun hS2 => ?_)
                refine wpAnyH_ready (rs := [10]) (by kernel_rfl) (by simp) ?_
                refine AllReadyH.cons rfl (fun K hK => ?_) AllReadyH.nil
                rw [if_pos (by kernel_rfl)]
                go_simp
                go_wp2_with (go_at_call 5; refine (KJ.out _).mono ?_; rintro e w3 ⟨rfl, hB3⟩)
                have hW3 : Below wr.heap.size wr w3 := bseq hW2 hB3
                have hz3 := row_keep hz2 hB3
                refine hK.out _ _ (MK.out _ hW3) (fun hS3 => ?_)
                refine wpAnyH_take (i := 11) (v := .tuple #[(.agg #[.int .i64 sb, .int .i64 sc, .int .i64 sl, .string sh, .string st]), .int .i64 0]) rfl (by kernel_rfl) (by kernel_rfl) (by kernel_rfl) (fun _ _ _ h => h) (Or.inl ⟨by kernel_rfl, fun w' hw => by (clear hw; go_simp)⟩) hS3 ?_
                refine wpAnyH_take (i := 12) (v := (.agg #[.int .i64 sb, .int .i64 sc, .int .i64 sl, .string sh, .string st])) rfl (by kernel_rfl) (by kernel_rfl) (by kernel_rfl) (fun _ _ _ h => h) (Or.inl ⟨by kernel_rfl, fun w' hw => by (clear hw; go_simp)⟩) hS3 ?_
                refine wpAnyH_take (i := 13) (v := .int .i64 0) rfl (by kernel_rfl) (by kernel_rfl) (by kernel_rfl) (fun _ _ _ h => h) (Or.inl ⟨by kernel_rfl, fun w' hw => by (clear hw; go_simp)⟩) hS3 ?_
                obtain ⟨⟨d0, d1, d2, d3, d4⟩, ⟨f0, f1, f2, f3, f4⟩, R, _, BB⟩ := chain5 hz3 (.int .i64 sb) (.int .i64 sc) (.int .i64 sl) (.string sh) (.string st)
                have HR := hide R
                have HBB := hide BB
                clear R BB
                refine wpAnyH_ready (rs := [15]) (by kernel_rfl) (by simp) ?_
                refine AllReadyH.cons rfl (fun K hK => ?_) AllReadyH.nil
                rw [if_pos (by kernel_rfl)]
                go_simp
                refine hK.out _ _ (MK.out _ (HBB.out _ _ (hW1).size hW3)) (fun hSf => ?_)
                refine wpAnyH_take (i := 16) (v := .int .i64 0) rfl (by kernel_rfl) (by kernel_rfl) (by kernel_rfl) (fun _ _ _ h => h) (Or.inl ⟨by kernel_rfl, fun w' hw => by (clear hw; go_simp)⟩) hSf ?_
                refine wpAnyH_done (by kernel_rfl) ?_ _
                go_wp2
                go_meet
                exact ⟨_, rfl, rfl, (hW1).size, HR.out, HBB.out _ _ (hW1).size hW3⟩
            · rw [if_pos (by kernel_rfl)]
              go_simp
              refine hK.out _ _ (MK.out _ (((Below.refl wr.heap.size wr).drew.drew).alloc ((Below.refl wr.heap.size wr).drew.drew).size _)) (fun hSa => ?_)
              refine wpAnyH_ready (rs := [4]) (by kernel_rfl) (by simp) ?_
              refine AllReadyH.cons rfl (fun K hK => ?_) AllReadyH.nil
              rw [if_pos (by kernel_rfl)]
              go_simp
              go_wp2_with (go_at_call 6; refine (KO1.out _).mono ?_; rintro e w1 ⟨rfl, hB1⟩)
              have hW1 : Below wr.heap.size wr w1 := bseq (((Below.refl wr.heap.size wr).drew.drew).alloc ((Below.refl wr.heap.size wr).drew.drew).size _) hB1
              have hz1 : w1.heap[wr.heap.size]? = some (.cells #[.int .i64 0, .int .i64 0, .int .i64 0, .string ⟨#[]⟩, .string ⟨#[]⟩] 24 (0, 0)) := by rw [hB1.block _ (by simp)]; exact heap_alloc_new _ _
              refine hK.out _ _ (MK.out _ hW1) (fun hS1 => ?_)
              refine wpAnyH_ready (rs := [9]) (by kernel_rfl) (by simp) ?_
              refine AllReadyH.cons rfl (fun K hK => ?_) AllReadyH.nil
              rw [if_pos (by kernel_rfl)]
              go_simp
              go_wp2_with (go_at_call 6; refine (KO2.out _).mono ?_; rintro e w2 ⟨rfl, hB2⟩)
              have hW2 : Below wr.heap.size wr w2 := bseq hW1 hB2
              have hz2 := row_keep hz1 hB2
              refine hK.out _ _ (MK.out _ hW2) (fun hS2 => ?_)
              refine wpAnyH_ready (rs := [10]) (by kernel_rfl) (by simp) ?_
              refine AllReadyH.cons rfl (fun K hK => ?_) AllReadyH.nil
              rw [if_pos (by kernel_rfl)]
              go_simp
              go_wp2_with (go_at_call 5; refine (KJ.out _).mono ?_; rintro e w3 ⟨rfl, hB3⟩)
              have hW3 : Below wr.heap.size wr w3 := bseq hW2 hB3
              have hz3 := row_keep hz2 hB3
              refine hK.out _ _ (MK.out _ hW3) (fun hS3 => ?_)
              refine wpAnyH_take (i := 11) (v := .tuple #[(.agg #[.int .i64 sb, .int .i64 sc, .int .i64 sl, .string sh, .string st]), .int .i64 0]) rfl (by kernel_rfl) (by kernel_rfl) (by kernel_rfl) (fun _ _ _ h => h) (Or.inl ⟨by kernel_rfl, fun w' hw => by (clear hw; go_simp)⟩) hS3 ?_
              refine wpAnyH_take (i := 12) (v := (.agg #[.int .i64 sb, .int .i64 sc, .int .i64 sl, .string sh, .string st])) rfl (by kernel_rfl) (by kernel_rfl) (by kernel_rfl) (fun _ _ _ h => h) (Or.inl ⟨by kernel_rfl, fun w' hw => by (clear hw; go_simp)⟩) hS3 ?_
              refine wpAnyH_take (i := 13) (v := .int .i64 0) rfl (by kernel_rfl) (by kernel_rfl) (by kernel_rfl) (fun _ _ _ h => h) (Or.inl ⟨by kernel_rfl, fun w' hw => by (clear hw; go_simp)⟩) hS3 ?_
              obtain ⟨⟨d0, d1, d2, d3, d4⟩, ⟨f0, f1, f2, f3, f4⟩, R, _, BB⟩ := chain5 hz3 (.int .i64 sb) (.int .i64 sc) (.int .i64 sl) (.string sh) (.string st)
              have HR := hide R
              have HBB := hide BB
              clear R BB
              refine wpAnyH_ready (rs := [15]) (by kernel_rfl) (by simp) ?_
              refine AllReadyH.cons rfl (fun K hK => ?_) AllReadyH.nil
              rw [if_pos (by kernel_rfl)]
              go_simp
              refine hK.out _ _ (MK.out _ (HBB.out _ _ ((Below.refl wr.heap.size wr).drew.drew).size hW3)) (fun hSf => ?_)
              refine wpAnyH_take (i := 16) (v := .int .i64 0) rfl (by kernel_rfl) (by kernel_rfl) (by kernel_rfl) (fun _ _ _ h => h) (Or.inl ⟨by kernel_rfl, fun w' hw => by (clear hw; go_simp)⟩) hSf ?_
              refine wpAnyH_done (by kernel_rfl) ?_ _
              go_wp2
              go_meet
              exact ⟨_, rfl, rfl, ((Below.refl wr.heap.size wr).drew.drew).size, HR.out, HBB.out _ _ ((Below.refl wr.heap.size wr).drew.drew).size hW3⟩
          case rest =>
            obtain ⟨B5, rfl, rfl, hb5, hrow, hBx⟩ := hcut
            have mk2 : ∀ W, Below wc.heap.size wc W → (Below wc.heap.size wc W ∧ W.cell? ⟨w.heap.size, i, none⟩ = some (.string a) ∧ W.cell? ⟨w.heap.size, k, none⟩ = some (.string b) ∧ W.cell? ⟨B5, 0, none⟩ = some (.int .i64 sb) ∧ W.cell? ⟨B5, 1, none⟩ = some (.int .i64 sc) ∧ W.cell? ⟨B5, 2, none⟩ = some (.int .i64 sl) ∧ W.cell? ⟨B5, 3, none⟩ = some (.string sh) ∧ W.cell? ⟨B5, 4, none⟩ = some (.string st)) := fun W hW => ⟨hW, (MK.out _ (bseq hBx hW)).2.1, (MK.out _ (bseq hBx hW)).2.2, box_at (row_keep hrow hW)⟩
            have MK2 := hide mk2
            have HBX := hide hBx
            have hg := Try.noGuard24
            have heq := fun w => eql_ty sb sc sl sh st sb sc sl sh st w
            rw [show sameT sb sc sl sh st sb sc sl sh st = true from decide_eq_true ⟨rfl, rfl, rfl, rfl, rfl⟩] at heq
            clear mk2 hBx hrow MK KO1 KO2 KJ ad s0 s1
            go_upto_region 10 with (fail)
            go_region_held3 (fun W => Below wc.heap.size wc W ∧ W.cell? ⟨w.heap.size, i, none⟩ = some (.string a) ∧ W.cell? ⟨w.heap.size, k, none⟩ = some (.string b) ∧ W.cell? ⟨B5, 0, none⟩ = some (.int .i64 sb) ∧ W.cell? ⟨B5, 1, none⟩ = some (.int .i64 sc) ∧ W.cell? ⟨B5, 2, none⟩ = some (.int .i64 sl) ∧ W.cell? ⟨B5, 3, none⟩ = some (.string sh) ∧ W.cell? ⟨B5, 4, none⟩ = some (.string st)) (first | exact MK2.out _ (Below.refl _ _).drew | exact MK2.out _ hX6 | exact MK2.out _ hX5 | exact MK2.out _ hX4 | exact MK2.out _ hX3 | exact MK2.out _ hX2) (first | (go_at_call 6; refine (KO3.out _).mono ?_; rintro e2 w2 ⟨rfl, hB2⟩; have hX2 : Below wc.heap.size wc w2 := bseq (Below.refl _ _).drew hB2) | (go_at_call 7; refine (KR3.out _).mono ?_; clear KR3; rintro e3 w3 ⟨rfl, hB3⟩; have hX3 : Below wc.heap.size wc w3 := bseq hX2 hB3) | (go_at_call 7; refine (KR1.out _).mono ?_; clear KR1; rintro e4 w4 ⟨rfl, hB4⟩; have hX4 : Below wc.heap.size wc w4 := bseq hX3 hB4) | (go_at_call 7; refine (KR2.out _).mono ?_; clear KR2; rintro e5 w5 ⟨rfl, hB5⟩; have hX5 : Below wc.heap.size wc w5 := bseq hX4 hB5) | (go_at_call 8; refine (KT.out _).mono ?_; rintro e6 w6 ⟨rfl, hB6⟩; have hX6 : Below wc.heap.size wc w6 := bseq hX5 hB6))
            go_wp2
            go_roundw
            case rel => exact ⟨k + 1, by go_num, by omega, HB.out.trans ((bseq HBX.out hX6).mono HB.out.size)⟩
            case measure => simp [intOf]; omega
        · have hkI : (23 : Int) ≤ (k : Int) := by omega
          have HB := hide hB
          clear hB hkl
          go_wp2
          go_roundw
          case rel => exact ⟨i + 1, by go_num, by omega, HB.out⟩
          case measure => simp [intOf]; omega
    · have hltI : (23 : Int) ≤ (i : Int) := by omega
      have HB := hide (bseq HBA.out hB)
      clear hB hlt HC HBA hlA
      obtain ⟨tb, tc, tL, th, tt, htb, ko⟩ := ofAgg ⟨#[128]⟩ (by decide)
      have kj1 := fun w => joins_any 8 2 0 ⟨#[97, 98, 99]⟩ ⟨#[240, 159, 152]⟩ tb tc tL th tt w (by omega) (by omega)
      have kj2 := fun w => joins_any 8 2 0 ⟨#[97, 98, 99]⟩ ⟨#[240, 159, 152]⟩ 8 2 0 ⟨#[97, 98, 99]⟩ ⟨#[240, 159, 152]⟩ w (by omega) (by omega)
      have ks := fun (g : Nat) w h => sums_two g w 8 2 0 ⟨#[97, 98, 99]⟩ ⟨#[240, 159, 152]⟩ tb tc tL th tt (by omega) (by omega) h
      have hm1 : mayT 4611686018427387904 4611686018427387904 0 ⟨#[97, 98, 99]⟩ ⟨#[97, 98, 99]⟩ = true := by kernel_rfl
      have hm2 : mayT (-1) 0 0 ⟨#[]⟩ ⟨#[]⟩ = false := by kernel_rfl
      have kb := fun w => join_big 4611686018427387904 4611686018427387904 0 ⟨#[97, 98, 99]⟩ ⟨#[97, 98, 99]⟩ 4611686018427387904 4611686018427387904 0 ⟨#[97, 98, 99]⟩ ⟨#[97, 98, 99]⟩ w (by omega) (by omega) hm1 hm1 (by omega)
      have kc1 := fun w => check_any 4611686018427387904 4611686018427387904 0 ⟨#[97, 98, 99]⟩ ⟨#[97, 98, 99]⟩ w (by omega)
      have kc2 := fun w => check_any (-1) 0 0 ⟨#[]⟩ ⟨#[]⟩ w (by omega)
      rw [hm1, show okE true = 0 from rfl] at kc1
      rw [hm2, show okE false = 30 from rfl] at kc2
      have KO := hide ko
      have KO' := hide ko
      have KJ1 := hide kj1
      have KJ2 := hide kj2
      have KS := hide ks
      have KB := hide kb
      have KC1 := hide kc1
      have KC2 := hide kc2
      clear ko kj1 kj2 ks kb kc1 kc2 hm1 hm2
      go_upto_region 13 with (fail)
      generalize hX : wr.alloc (.cells #[.int .i64 8, .int .i64 2, .int .i64 0, .string ⟨#[97, 98, 99]⟩, .string ⟨#[240, 159, 152]⟩] 24) = X at *
      have hXr : X.heap[wr.heap.size]? = some (.cells #[.int .i64 8, .int .i64 2, .int .i64 0, .string ⟨#[97, 98, 99]⟩, .string ⟨#[240, 159, 152]⟩] 24 (0, 0)) := by rw [← hX]; exact heap_alloc_new wr _
      have hXB : Below w.heap.size w X := by rw [← hX]; exact HB.out.alloc HB.out.size _
      generalize wr.heap.size = O at *
      have mk : ∀ W, Below X.heap.size X W → (Below X.heap.size X W ∧ W.cell? ⟨O, 0, none⟩ = some (.int .i64 8) ∧ W.cell? ⟨O, 1, none⟩ = some (.int .i64 2) ∧ W.cell? ⟨O, 2, none⟩ = some (.int .i64 0) ∧ W.cell? ⟨O, 3, none⟩ = some (.string ⟨#[97, 98, 99]⟩) ∧ W.cell? ⟨O, 4, none⟩ = some (.string ⟨#[240, 159, 152]⟩)) := fun W hW => ⟨hW, box_at (row_keep hXr hW)⟩
      have MK := hide mk
      have HXB := hide hXB
      clear mk hXr hXB hX HB
      go_region_held3 (fun W => Below X.heap.size X W ∧ W.cell? ⟨O, 0, none⟩ = some (.int .i64 8) ∧ W.cell? ⟨O, 1, none⟩ = some (.int .i64 2) ∧ W.cell? ⟨O, 2, none⟩ = some (.int .i64 0) ∧ W.cell? ⟨O, 3, none⟩ = some (.string ⟨#[97, 98, 99]⟩) ∧ W.cell? ⟨O, 4, none⟩ = some (.string ⟨#[240, 159, 152]⟩)) (first | exact MK.out _ (Below.refl _ _).drew | exact MK.out _ hX6 | exact MK.out _ hX5 | exact MK.out _ (hX4.alloc hX4.size _) | exact MK.out _ hX4 | exact MK.out _ hX3 | exact MK.out _ hX2) (first | (go_at_call 7; refine (KO.out _).mono ?_; clear KO; rintro e2 w2 ⟨rfl, hB2⟩; have hX2 : Below X.heap.size X w2 := bseq (Below.refl _ _).drew hB2) | (go_at_call 8; refine (KJ1.out _).mono ?_; clear KJ1; rintro e3 w3 ⟨rfl, hB3⟩; have hX3 : Below X.heap.size X w3 := bseq hX2 hB3) | (go_at_call 7; refine (KO'.out _).mono ?_; clear KO'; rintro e4 w4 ⟨rfl, hB4⟩; have hX4 : Below X.heap.size X w4 := bseq hX3 hB4) | (go_at_call 9; refine (KS.out _ _ (slt_two w4 _ _ _ _ _ _ _ _ _ _ _ (heap_alloc_new w4 _))).mono ?_; clear KS; rintro e5 w5 ⟨rfl, hB5⟩; have hX5 : Below X.heap.size X w5 := bseq (hX4.alloc hX4.size _) hB5) | (go_at_call 8; refine (KJ2.out _).mono ?_; clear KJ2; rintro e6 w6 ⟨rfl, hB6⟩; have hX6 : Below X.heap.size X w6 := bseq hX5 hB6))
      have HX6 := hide (bseq HXB.out hX6)
      clear MK HXB hX2 hX3 hX4 hX5 hX6 hB2 hB3 hB4 hB5 hB6
      go_wp2_with (first | (go_at_call 5; refine (KB.out _).mono ?_; rintro e7 w7 ⟨rfl, hB7⟩) | (go_at_call 10; refine (KC2.out _).mono ?_; clear KC2; rintro e8 w8 ⟨rfl, hB8⟩; have hY8 : Below w7.heap.size w7 w8 := bseq ((Below.refl _ w7).alloc (Nat.le_refl _) _) hB8; obtain ⟨c0, c1, c2, c3, c4⟩ := box_at (row_keep (row_after hB7) hY8)) | (go_at_call 10; refine (KC1.out _).mono ?_; clear KC1; rintro e9 w9 ⟨rfl, hB9⟩) | (go_at_call 11; refine (works_any _).mono ?_; rintro e10 w10 ⟨rfl, hB10⟩))
      go_ret
      exact ⟨rfl, bseq (bseq (bseq (bseq (HX6.out.alloc HX6.out.size _) hB7) hY8) hB9) hB10⟩
end tallyNames
end Go.Proofs.Ytojbclifafmllaa
