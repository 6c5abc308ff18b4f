/- What tally.Parts answers, of a text and places that do not rise. -/
import Derived.Test.YtojbclifafmllaaTPt
namespace Go.Proofs.Ytojbclifafmllaa
open Go.RowKit
set_option linter.unusedVariables false

/-- Places that rise, among all numbers. -/
def RiseI (n : Nat) : Nat → List Int → Prop
  | _, [] => True
  | f, z :: zs => (f : Int) ≤ z ∧ z ≤ (n : Int) ∧ RiseI n z.toNat zs
theorem rise_of {n : Nat} : ∀ {f : Nat} {zs : List Int}, RiseI n f zs → ∃ ps : List Nat, zs = ps.map (fun (p : Nat) => (p : Int)) ∧ Rise n f ps := by
  intro f zs
  induction zs generalizing f with
  | nil => intro _; exact ⟨[], rfl, trivial⟩
  | cons z zs ih =>
    rintro ⟨h1, h2, h3⟩
    obtain ⟨ps, rfl, h4⟩ := ih h3
    refine ⟨z.toNat :: ps, ?_, by omega, by omega, h4⟩
    rw [List.map_cons]
    congr 1
    omega

set_option maxHeartbeats 2000000 in
theorem parts_bad (s : ByteArray) (a : Option Addr) (cap : Nat) (zs : List Int) (w : World) (hz : SlI w a zs) (hr : ¬ RiseI s.size 0 zs) (hs : s.size ≤ 1048576) (hl : zs.length ≤ 1048576) :
    Calls Try.prog 14 #[.string s, .slice a zs.length cap] w fun e w' => e = .returned (.tuple #[.slice none 0 0, .int .i64 2]) ∧ Below w.heap.size w w' := by
  obtain ⟨i0, hi, hz0, hz1, hz2⟩ := info_parts Try.infoT
  obtain ⟨n, hn⟩ : ∃ n, n = zs.length := ⟨_, rfl⟩
  have hw1 : IntKind.i64.wrap ((n : Int) + 1) = (n : Int) + 1 := by rw [IntKind.wrap_i64]; omega
  have hmk : ∀ w, Sem.run Try.prog (Instr.makeSlice 31 (.int .i64 0) (.int .i64 ((n : Int) + 1))) w = .ok (.slice (some ⟨w.heap.size, 0, none⟩) 0 (n + 1)) (w.alloc (.cells (madeCells (Value.cells (.agg #[.int .i64 0, .int .i64 0, .int .i64 0, .string ⟨#[]⟩, .string ⟨#[]⟩])) ((n + 1) * 5)) 24)) := fun w => by
    have h := run_make (P := Try.prog) w 31 24 i0 (.agg #[.int .i64 0, .int .i64 0, .int .i64 0, .string ⟨#[]⟩, .string ⟨#[]⟩]) Try.underlying31 hi hz0 .i64 .i64 0 ((n : Int) + 1) (by omega) (by omega) (by rw [hz2]; omega) (by omega)
    rw [hz1] at h
    exact h
  have HZ := hide hz
  have HR := hide hr
  have HN := hide hn
  rw [← hn]
  clear hz hr
  have hln : n ≤ 1048576 := by omega
  have hO0 : (w.alloc (.cells (madeCells (Value.cells (.agg #[.int .i64 0, .int .i64 0, .int .i64 0, .string ⟨#[]⟩, .string ⟨#[]⟩])) ((n + 1) * 5)) 24)).ownsRow w.heap.size 24 5 (.slice (some ⟨w.heap.size, 0, none⟩) 0 (n + 1)) 0 [] :=
    World.ownsRow_made w _ (n + 1) (Nat.le_refl _) (by unfold maxLen; omega) (by rw [size_madeCells])
  have hB0 : Below w.heap.size w (w.alloc (.cells (madeCells (Value.cells (.agg #[.int .i64 0, .int .i64 0, .int .i64 0, .string ⟨#[]⟩, .string ⟨#[]⟩])) ((n + 1) * 5)) 24)) := (Below.refl _ w).alloc (Nat.le_refl _) _
  have HO0 := hide hO0
  have HB0 := hide hB0
  clear hO0 hB0 hn hl
  go_enter Try.func14, Try.ntmps14
  go_wp2_with (fail)
  clear hmk
  go_loopw [6, 7, 16] (fun v f i wr => ∃ (k fr : Nat) (acc : List ByteArray), i = .int .i64 k ∧ f = .int .i64 fr ∧ v = .slice (some ⟨w.heap.size, 0, none⟩) k (n + 1) ∧ k ≤ n ∧ fr ≤ s.size ∧ ¬ RiseI s.size fr (zs.drop k) ∧
      wr.ownsRow w.heap.size 24 5 (.slice (some ⟨w.heap.size, 0, none⟩) k (n + 1)) k (tCs (acc.map ofT)) ∧ Below w.heap.size w wr) (fun _ _ i _ => n - (intOf i).toNat)
  case atStart => exact ⟨0, 0, [], rfl, rfl, rfl, by omega, by omega, HR.out, HO0.out, HB0.out⟩
  case round =>
    clear HO0 HB0
    obtain ⟨k, fr, acc, rfl, rfl, rfl, hk, hfr, hrise, hown, hB⟩ := hrel
    by_cases hlt : k < n
    · have hltp : k < zs.length := by rw [← HN.out]; exact hlt
      obtain ⟨z, hp⟩ : ∃ z, zs[k]? = some z := ⟨_, List.getElem?_eq_getElem hltp⟩
      have hdr : zs.drop k = z :: zs.drop (k + 1) := by
        rw [List.drop_eq_getElem_cons hltp]
        congr 1
        exact Option.some.inj ((List.getElem?_eq_getElem hltp).symm.trans hp)
      rw [hdr] at hrise
      obtain ⟨b0, off, rfl, hb0, hcl⟩ : ∃ b off, a = some ⟨b, off, none⟩ ∧ b < wr.heap.size ∧ ∀ (i : Nat) (z : Int), zs[i]? = some z → wr.cell? ⟨b, off + i, none⟩ = some (.int .i64 z) := by
        rcases HZ.out.below hB with h | h
        · have := congrArg List.length h; rw [List.length_nil] at this; omega
        · exact h
      have c0 := hcl k z hp
      have hlt' : (k : Int) < (n : Int) := by omega
      have HB := hide hB
      clear hcl hdr hp
      by_cases hz1' : z < (fr : Int)
      · have d1 : decide (z < (fr : Int)) = true := decide_eq_true hz1'
        clear hrise hown hB HR HZ
        go_wp2
        go_ret2
        exact ⟨rfl, HB.out⟩
      by_cases hz2' : (s.size : Int) < z
      · have d1 : decide (z < (fr : Int)) = false := decide_eq_false hz1'
        have d2 : decide ((s.size : Int) < z) = true := decide_eq_true hz2'
        clear hrise hown hB HR HZ
        go_wp2
        go_ret2
        exact ⟨rfl, HB.out⟩
      obtain ⟨p, rfl⟩ : ∃ p : Nat, z = (p : Int) := ⟨z.toNat, by omega⟩
      have r3 : ¬ RiseI s.size p (zs.drop (k + 1)) := fun h => hrise ⟨by omega, by omega, h⟩
      have r1 : fr ≤ p := by omega
      have r2 : p ≤ s.size := by omega
      have i1 : (fr : Int) ≤ (p : Int) := by omega
      have i2 : (p : Int) ≤ (s.size : Int) := by omega
      have d1 : decide ((p : Int) < (fr : Int)) = false := decide_eq_false (by omega)
      have d2 : decide ((s.size : Int) < (p : Int)) = false := decide_eq_false (by omega)
      clear hz1' hz2' hrise
      have ko := fun w => tof_any (s.extract fr p) w (by rw [ByteArray.size_extract]; omega)
      have hxx : ofT (s.extract fr p) = ((((s.extract fr p).size : Nat) : Int), ((chn (bl (s.extract fr p)) : Nat) : Int), ((lin (bl (s.extract fr p)) : Nat) : Int), hd (s.extract fr p), tl (s.extract fr p)) := rfl
      unfold tyC at ko
      obtain ⟨S, hS⟩ : ∃ z : Int, z = (((s.extract fr p).size : Nat) : Int) := ⟨_, rfl⟩
      rw [← hS] at ko hxx
      generalize ((chn (bl (s.extract fr p)) : Nat) : Int) = C at *
      generalize ((lin (bl (s.extract fr p)) : Nat) : Int) = L at *
      generalize hd (s.extract fr p) = H at *
      generalize tl (s.extract fr p) = T at *
      have KO := hide ko
      have HXX := hide hxx
      have HR3 := hide r3
      have HO := hide hown
      have hsw := hB.size
      clear ko hxx r3 hB hown hS
      go_wp2_with (first | (go_at_call 6; refine (KO.out _).mono ?_; rintro e w1 ⟨rfl, hB1⟩; have hO1 := (ownsRow_bel HO.out hB1).alloc (.cells #[.int .i64 S, .int .i64 C, .int .i64 L, .string H, .string T] 24); have hsw1 := hB1.size) | (at_builtin; refine wpList_append_fits _ rfl _ _ 31 rfl w.heap.size 24 i0 5 Try.underlying31 hi hz1 w.heap.size k (n + 1) _ rfl hO1 ⟨w1.heap.size, 0, none⟩ 1 1 (tC (S, C, L, H, T)) rfl rfl (row_cells w1 (S, C, L, H, T)) (tC_one _) (by omega) ?_; intro w3 hown3 hgrow3))
      have hBa := (bseq HB.out hB1).alloc (bseq HB.out hB1).size (.cells #[.int .i64 S, .int .i64 C, .int .i64 L, .string H, .string T] 24)
      go_roundw
      case rel =>
        refine ⟨k + 1, p, acc ++ [s.extract fr p], by go_num, rfl, rfl, by omega, by omega, HR3.out, ?_, hBa.grown hgrow3 hBa.size (fun j e => by cases e; exact Nat.le_refl _)⟩
        rw [List.map_append, List.map_cons, List.map_nil, HXX.out, tCs_snoc]
        exact hown3
      case measure => simp [intOf]; omega
    · have hdr : zs.drop k = [] := List.drop_eq_nil_of_le (by rw [← HN.out]; omega)
      rw [hdr] at hrise
      exact absurd trivial hrise
end Go.Proofs.Ytojbclifafmllaa
