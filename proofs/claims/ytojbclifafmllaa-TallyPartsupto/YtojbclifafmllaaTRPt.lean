/- What the document's Parts answers. -/
import Derived.Test.YtojbclifafmllaaTPtB
import Derived.Test.YtojbclifafmllaaTRf
namespace Go.Proofs.Ytojbclifafmllaa
open Go.RowKit
set_option linter.unusedVariables false

theorem SlI.get {W : World} {b off : Nat} {zs : List Int} (h : SlI W (some ⟨b, off, none⟩) zs) {i : Nat} {z : Int} (hz : zs[i]? = some z) : W.cell? ⟨b, off + i, none⟩ = some (.int .i64 z) := by
  rcases h with rfl | ⟨b', o', he, _, hc⟩
  · simp at hz
  · cases he; exact hc i z hz

set_option maxHeartbeats 2000000 in
theorem rparts_any (s : ByteArray) (a : Option Addr) (cap : Nat) (ps : List Nat) (w : World) (hz : SlI w a (ps.map (fun (p : Nat) => (p : Int)))) (hr : Rise s.size 0 ps) (hs : s.size ≤ 1048576) (hl : ps.length ≤ 1048576) :
    Calls Try.prog 12 #[.string s, .slice a ps.length cap] w fun e w' => ∃ v, e = .returned (.tuple #[v, .int .i64 0]) ∧ w'.ownsRow w.heap.size 24 5 v (ps.length + 1) (tCs ((pieces s 0 ps).map ofT)) ∧ Below w.heap.size w w' := by
  obtain ⟨i0, hi, hz0, hz1, hz2⟩ := info_parts Try.infoT
  have hlm : (ps.map (fun (p : Nat) => (p : Int))).length = ps.length := by simp
  obtain ⟨n, hn⟩ : ∃ n, n = ps.length := ⟨_, rfl⟩
  have HZ := hide hz
  have HR := hide hr
  have HN := hide hn
  rw [← hn]
  clear hz hr
  have hln : n ≤ 1048576 := by omega
  clear hn hlm hl
  go_enter Try.func12, Try.ntmps12
  go_wp2_with (fail)
  go_loopw [6, 7, 8] (fun v f i wr => ∃ (k fr : Nat) (acc : List ByteArray), i = .int .i64 k ∧ f = .int .i64 fr ∧ k ≤ n ∧ fr ≤ s.size ∧ acc.length = k ∧ acc ++ pieces s fr (ps.drop k) = pieces s 0 ps ∧ Rise s.size fr (ps.drop k) ∧
      wr.ownsRow w.heap.size 24 5 v k (tCs (acc.map ofT)) ∧ Below w.heap.size w wr) (fun _ _ i _ => n - (intOf i).toNat)
  case atStart => exact ⟨0, 0, [], rfl, rfl, by omega, by omega, rfl, rfl, HR.out, World.ownsRow_nil _ _ _ _, Below.refl _ _⟩
  case round =>
    obtain ⟨k, fr, acc, rfl, rfl, hk, hfr, hal, hacc, hrise, hown, hB⟩ := hrel
    by_cases hlt : k < n
    · have hltp : k < ps.length := by rw [← HN.out]; exact hlt
      obtain ⟨p, hp⟩ : ∃ p, ps[k]? = some p := ⟨_, List.getElem?_eq_getElem hltp⟩
      have hdr : ps.drop k = p :: ps.drop (k + 1) := by
        rw [List.drop_eq_getElem_cons hltp]
        congr 1
        exact Option.some.inj ((List.getElem?_eq_getElem hltp).symm.trans hp)
      rw [hdr] at hacc hrise
      obtain ⟨r1, r2, r3⟩ := hrise
      obtain ⟨b0, off, rfl, hb0, hcl⟩ : ∃ b off, a = some ⟨b, off, none⟩ ∧ b < wr.heap.size ∧ ∀ (i : Nat) (z : Int), (ps.map (fun (p : Nat) => (p : Int)))[i]? = some z → wr.cell? ⟨b, off + i, none⟩ = some (.int .i64 z) := by
        rcases HZ.out.below hB with h | h
        · have := congrArg List.length h; rw [List.length_map, List.length_nil] at this; omega
        · exact h
      have c0 := hcl k (p : Int) (by rw [List.getElem?_map, hp]; rfl)
      have hlt' : (k : Int) < (n : Int) := by omega
      have i1 : (fr : Int) ≤ (p : Int) := by omega
      have i2 : (p : Int) ≤ (s.size : Int) := by omega
      have d1 : decide ((p : Int) < (fr : Int)) = false := decide_eq_false (by omega)
      have d2 : decide ((s.size : Int) < (p : Int)) = false := decide_eq_false (by omega)
      have ko := fun w => refOf_any (s.extract fr p) w (by rw [ByteArray.size_extract]; omega)
      have hxx : ofT (s.extract fr p) = ((((s.extract fr p).size : Nat) : Int), ((chn (bl (s.extract fr p)) : Nat) : Int), ((lin (bl (s.extract fr p)) : Nat) : Int), hd (s.extract fr p), tl (s.extract fr p)) := rfl
      unfold tyC at ko
      obtain ⟨S, hS⟩ : ∃ z : Int, z = (((s.extract fr p).size : Nat) : Int) := ⟨_, rfl⟩
      rw [← hS] at ko hxx
      generalize ((chn (bl (s.extract fr p)) : Nat) : Int) = C at *
      generalize ((lin (bl (s.extract fr p)) : Nat) : Int) = L at *
      generalize hd (s.extract fr p) = H at *
      generalize tl (s.extract fr p) = T at *
      have KO := hide ko
      have HXX := hide hxx
      have HACC := hide hacc
      have HR3 := hide r3
      have HB := hide hB
      have HO := hide hown
      have HAL := hide hal
      have hsw := hB.size
      have HP := hide hp
      clear ko hxx hacc r3 hB hown hcl hdr hp hS hal
      go_wp2_with (first | (go_at_call 7; refine (KO.out _).mono ?_; rintro e w1 ⟨rfl, hB1⟩; have hO1 := (ownsRow_bel HO.out hB1).alloc (.cells #[.int .i64 S, .int .i64 C, .int .i64 L, .string H, .string T] 24); have hsw1 := hB1.size) | (at_builtin; refine wpList_append_own _ rfl _ _ 31 rfl w.heap.size 24 i0 (.agg #[.int .i64 0, .int .i64 0, .int .i64 0, .string ⟨#[]⟩, .string ⟨#[]⟩]) 5 56 Try.underlying31 hi hz0 hz1 hz2 rfl (by omega) _ _ _ rfl hO1 ⟨w1.heap.size, 0, none⟩ 1 1 (tC (S, C, L, H, T)) rfl rfl (row_cells w1 (S, C, L, H, T)) (tC_one _) (by unfold maxLen; omega) (by omega) (by simp only [World.size_alloc]; omega) ?_; intro v1 w3 hown3 hgrow3 _; have c3 := ((HZ.out.below (((bseq HB.out hB1).alloc (bseq HB.out hB1).size _).grown hgrow3 ((bseq HB.out hB1).alloc (bseq HB.out hB1).size _).size (fun j e => (HO.out.lt j e).1))).get (show (ps.map (fun (p : Nat) => (p : Int)))[k]? = some (p : Int) by rw [List.getElem?_map, HP.out]; rfl))))
      have hBa := (bseq HB.out hB1).alloc (bseq HB.out hB1).size (.cells #[.int .i64 S, .int .i64 C, .int .i64 L, .string H, .string T] 24)
      go_roundw
      case rel =>
        refine ⟨k + 1, p, acc ++ [s.extract fr p], by go_num, rfl, by omega, by omega, by rw [List.length_append, HAL.out]; rfl, ?_, HR3.out, ?_, hBa.grown hgrow3 hBa.size (fun j e => (HO.out.lt j e).1)⟩
        · rw [List.append_assoc]
          exact HACC.out
        · rw [List.map_append, List.map_cons, List.map_nil, HXX.out, tCs_snoc]
          exact hown3
      case measure => simp [intOf]; omega
    · have hkn : k = n := by omega
      subst hkn
      have hdr : ps.drop k = [] := List.drop_eq_nil_of_le (by rw [← HN.out]; exact Nat.le_refl _)
      rw [hdr] at hacc
      have i1 : (fr : Int) ≤ (s.size : Int) := by omega
      have ko := fun w => refOf_any (s.extract fr s.size) w (by rw [ByteArray.size_extract]; omega)
      have hxx : ofT (s.extract fr s.size) = ((((s.extract fr s.size).size : Nat) : Int), ((chn (bl (s.extract fr s.size)) : Nat) : Int), ((lin (bl (s.extract fr s.size)) : Nat) : Int), hd (s.extract fr s.size), tl (s.extract fr s.size)) := rfl
      unfold tyC at ko
      obtain ⟨S, hS⟩ : ∃ z : Int, z = (((s.extract fr s.size).size : Nat) : Int) := ⟨_, rfl⟩
      rw [← hS] at ko hxx
      generalize ((chn (bl (s.extract fr s.size)) : Nat) : Int) = C at *
      generalize ((lin (bl (s.extract fr s.size)) : Nat) : Int) = L at *
      generalize hd (s.extract fr s.size) = H at *
      generalize tl (s.extract fr s.size) = T at *
      have KO := hide ko
      have HXX := hide hxx
      have HACC := hide hacc
      have HB := hide hB
      have HO := hide hown
      have HAL := hide hal
      have hsw := hB.size
      clear ko hxx hacc hrise hB hown hdr hS hal
      go_wp2_with (first | (go_at_call 7; refine (KO.out _).mono ?_; rintro e w1 ⟨rfl, hB1⟩; have hO1 := (ownsRow_bel HO.out hB1).alloc (.cells #[.int .i64 S, .int .i64 C, .int .i64 L, .string H, .string T] 24); have hsw1 := hB1.size) | (at_builtin; refine wpList_append_own _ rfl _ _ 31 rfl w.heap.size 24 i0 (.agg #[.int .i64 0, .int .i64 0, .int .i64 0, .string ⟨#[]⟩, .string ⟨#[]⟩]) 5 56 Try.underlying31 hi hz0 hz1 hz2 rfl (by omega) _ _ _ rfl hO1 ⟨w1.heap.size, 0, none⟩ 1 1 (tC (S, C, L, H, T)) rfl rfl (row_cells w1 (S, C, L, H, T)) (tC_one _) (by unfold maxLen; omega) (by omega) (by simp only [World.size_alloc]; omega) ?_; intro v1 w3 hown3 hgrow3 _))
      have hBa := (bseq HB.out hB1).alloc (bseq HB.out hB1).size (.cells #[.int .i64 S, .int .i64 C, .int .i64 L, .string H, .string T] 24)
      go_ret2
      refine ⟨_, rfl, ?_, hBa.grown hgrow3 hBa.size (fun j e => (HO.out.lt j e).1)⟩
      have hfin : acc ++ [s.extract fr s.size] = pieces s 0 ps := HACC.out
      rw [← hfin, List.map_append, List.map_cons, List.map_nil, HXX.out, tCs_snoc]
      exact hown3

set_option maxHeartbeats 2000000 in
theorem rparts_bad (s : ByteArray) (a : Option Addr) (cap : Nat) (zs : List Int) (w : World) (hz : SlI w a zs) (hr : ¬ RiseI s.size 0 zs) (hs : s.size ≤ 1048576) (hl : zs.length ≤ 1048576) :
    Calls Try.prog 12 #[.string s, .slice a zs.length cap] w fun e w' => e = .returned (.tuple #[.slice none 0 0, .int .i64 2]) ∧ Below w.heap.size w w' := by
  obtain ⟨i0, hi, hz0, hz1, hz2⟩ := info_parts Try.infoT
  obtain ⟨n, hn⟩ : ∃ n, n = zs.length := ⟨_, rfl⟩
  have HZ := hide hz
  have HR := hide hr
  have HN := hide hn
  rw [← hn]
  clear hz hr
  have hln : n ≤ 1048576 := by omega
  clear hn hl
  go_enter Try.func12, Try.ntmps12
  go_wp2_with (fail)
  go_loopw [6, 7, 8] (fun v f i wr => ∃ (k fr : Nat) (acc : List ByteArray), i = .int .i64 k ∧ f = .int .i64 fr ∧ k ≤ n ∧ fr ≤ s.size ∧ ¬ RiseI s.size fr (zs.drop k) ∧
      wr.ownsRow w.heap.size 24 5 v k (tCs (acc.map ofT)) ∧ Below w.heap.size w wr) (fun _ _ i _ => n - (intOf i).toNat)
  case atStart => exact ⟨0, 0, [], rfl, rfl, by omega, by omega, HR.out, World.ownsRow_nil _ _ _ _, Below.refl _ _⟩
  case round =>
    obtain ⟨k, fr, acc, rfl, rfl, hk, hfr, hrise, hown, hB⟩ := hrel
    by_cases hlt : k < n
    · have hltp : k < zs.length := by rw [← HN.out]; exact hlt
      obtain ⟨z, hp⟩ : ∃ z, zs[k]? = some z := ⟨_, List.getElem?_eq_getElem hltp⟩
      have hdr : zs.drop k = z :: zs.drop (k + 1) := by
        rw [List.drop_eq_getElem_cons hltp]
        congr 1
        exact Option.some.inj ((List.getElem?_eq_getElem hltp).symm.trans hp)
      rw [hdr] at hrise
      obtain ⟨b0, off, rfl, hb0, hcl⟩ : ∃ b off, a = some ⟨b, off, none⟩ ∧ b < wr.heap.size ∧ ∀ (i : Nat) (z : Int), zs[i]? = some z → wr.cell? ⟨b, off + i, none⟩ = some (.int .i64 z) := by
        rcases HZ.out.below hB with h | h
        · have := congrArg List.length h; rw [List.length_nil] at this; omega
        · exact h
      have c0 := hcl k z hp
      have HP := hide hp
      have hlt' : (k : Int) < (n : Int) := by omega
      have HB := hide hB
      clear hcl hdr hp
      by_cases hz1' : z < (fr : Int)
      · have d1 : decide (z < (fr : Int)) = true := decide_eq_true hz1'
        clear hrise hown hB
        go_wp2
        go_ret2
        exact ⟨rfl, HB.out⟩
      by_cases hz2' : (s.size : Int) < z
      · have d1 : decide (z < (fr : Int)) = false := decide_eq_false hz1'
        have d2 : decide ((s.size : Int) < z) = true := decide_eq_true hz2'
        clear hrise hown hB
        go_wp2
        go_ret2
        exact ⟨rfl, HB.out⟩
      obtain ⟨p, rfl⟩ : ∃ p : Nat, z = (p : Int) := ⟨z.toNat, by omega⟩
      have r3 : ¬ RiseI s.size p (zs.drop (k + 1)) := fun h => hrise ⟨by omega, by omega, h⟩
      have r1 : fr ≤ p := by omega
      have r2 : p ≤ s.size := by omega
      have i1 : (fr : Int) ≤ (p : Int) := by omega
      have i2 : (p : Int) ≤ (s.size : Int) := by omega
      have d1 : decide ((p : Int) < (fr : Int)) = false := decide_eq_false (by omega)
      have d2 : decide ((s.size : Int) < (p : Int)) = false := decide_eq_false (by omega)
      clear hz1' hz2' hrise
      have ko := fun w => refOf_any (s.extract fr p) w (by rw [ByteArray.size_extract]; omega)
      have hxx : ofT (s.extract fr p) = ((((s.extract fr p).size : Nat) : Int), ((chn (bl (s.extract fr p)) : Nat) : Int), ((lin (bl (s.extract fr p)) : Nat) : Int), hd (s.extract fr p), tl (s.extract fr p)) := rfl
      unfold tyC at ko
      obtain ⟨S, hS⟩ : ∃ z : Int, z = (((s.extract fr p).size : Nat) : Int) := ⟨_, rfl⟩
      rw [← hS] at ko hxx
      generalize ((chn (bl (s.extract fr p)) : Nat) : Int) = C at *
      generalize ((lin (bl (s.extract fr p)) : Nat) : Int) = L at *
      generalize hd (s.extract fr p) = H at *
      generalize tl (s.extract fr p) = T at *
      have KO := hide ko
      have HXX := hide hxx
      have HR3 := hide r3
      have HO := hide hown
      have hsw := hB.size
      clear ko hxx r3 hB hown hS
      go_wp2_with (first | (go_at_call 7; refine (KO.out _).mono ?_; rintro e w1 ⟨rfl, hB1⟩; have hO1 := (ownsRow_bel HO.out hB1).alloc (.cells #[.int .i64 S, .int .i64 C, .int .i64 L, .string H, .string T] 24); have hsw1 := hB1.size) | (at_builtin; refine wpList_append_own _ rfl _ _ 31 rfl w.heap.size 24 i0 (.agg #[.int .i64 0, .int .i64 0, .int .i64 0, .string ⟨#[]⟩, .string ⟨#[]⟩]) 5 56 Try.underlying31 hi hz0 hz1 hz2 rfl (by omega) _ _ _ rfl hO1 ⟨w1.heap.size, 0, none⟩ 1 1 (tC (S, C, L, H, T)) rfl rfl (row_cells w1 (S, C, L, H, T)) (tC_one _) (by unfold maxLen; omega) (by omega) (by simp only [World.size_alloc]; omega) ?_; intro v1 w3 hown3 hgrow3 _; have c3 := ((HZ.out.below (((bseq HB.out hB1).alloc (bseq HB.out hB1).size _).grown hgrow3 ((bseq HB.out hB1).alloc (bseq HB.out hB1).size _).size (fun j e => (HO.out.lt j e).1))).get HP.out)))
      have hBa := (bseq HB.out hB1).alloc (bseq HB.out hB1).size (.cells #[.int .i64 S, .int .i64 C, .int .i64 L, .string H, .string T] 24)
      go_roundw
      case rel =>
        refine ⟨k + 1, p, acc ++ [s.extract fr p], by go_num, rfl, by omega, by omega, HR3.out, ?_, hBa.grown hgrow3 hBa.size (fun j e => (HO.out.lt j e).1)⟩
        rw [List.map_append, List.map_cons, List.map_nil, HXX.out, tCs_snoc]
        exact hown3
      case measure => simp [intOf]; omega
    · have hdr : zs.drop k = [] := List.drop_eq_nil_of_le (by rw [← HN.out]; omega)
      rw [hdr] at hrise
      exact absurd trivial hrise
end Go.Proofs.Ytojbclifafmllaa
