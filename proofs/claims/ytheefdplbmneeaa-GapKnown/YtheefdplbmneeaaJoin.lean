/- What Join, Little and EqRows answer: bytes one behind the other, a number's bytes, whether two lists of lists of bytes are one. -/
import Derived.Test.YtheefdplbmneeaaRowsH
namespace Go.Proofs.Ytheefdplbmneeaa
open Go.RowKit
set_option linter.unusedVariables false

theorem flat_at {rs : List (List Nat)} {i : Nat} {r : List Nat} (h : rs[i]? = some r) : (rs.take i).flatten.length + r.length ≤ rs.flatten.length := by
  have e := List.take_append_drop (i + 1) rs
  have l := congrArg (fun l => l.flatten.length) e
  simp only [List.flatten_append, List.length_append, List.take_add_one, h, Option.toList_some, List.flatten_cons, List.flatten_nil, List.append_nil] at l
  omega
theorem flat_next {rs : List (List Nat)} {i : Nat} {r : List Nat} (h : rs[i]? = some r) : (rs.take (i + 1)).flatten = (rs.take i).flatten ++ r := by
  simp [List.take_add_one, h]

set_option maxHeartbeats 1000000 in
theorem join_any (a : Option Addr) (cap : Nat) (rs : List (List Nat)) (w : World) (hg : SlR w a rs) (hn : rs.length ≤ 1000000000000) (hl : rs.flatten.length ≤ 140737488355328) :
    Calls Try.prog 30 #[.slice a rs.length cap] w fun e w' => ∃ v, e = .returned v ∧ w'.ownsRow w.heap.size 5 1 v rs.flatten.length (rs.flatten.map B8) ∧ Below w.heap.size w w' := by
  obtain ⟨i0, hi, hz0, hz1, hz2⟩ := info_parts Try.info5
  go_enter Try.func30, Try.ntmps30
  go_wp2
  go_loopw [3, 4] (fun v i wr => ∃ (k : Nat), k ≤ rs.length ∧ i = .int .i64 k ∧ wr.ownsRow w.heap.size 5 1 v (rs.take k).flatten.length ((rs.take k).flatten.map B8) ∧ Below w.heap.size w wr)
    (fun _ i _ => rs.length - (intOf i).toNat)
  case atStart => exact ⟨0, by omega, rfl, World.ownsRow_nil _ _ _ _, Below.refl _ _⟩
  case round =>
    obtain ⟨k, hk, rfl, hown, hB⟩ := hrel
    have HO := hide hown
    have HB := hide hB
    clear hown hB
    by_cases hlt : k < rs.length
    · obtain ⟨r, hrk⟩ : ∃ r, rs[k]? = some r := ⟨_, List.getElem?_eq_getElem hlt⟩
      obtain ⟨b, off, rfl, hbl, hseg⟩ : ∃ b off, a = some ⟨b, off, none⟩ ∧ b < w.heap.size ∧ ∀ (i : Nat) (r : List Nat), rs[i]? = some r → ∃ ai cap, w.cell? ⟨b, off + i, none⟩ = some (.slice ai r.length cap) ∧ Sl w ai r ∧ r.length ≤ maxLen := by
        rcases hg with rfl | h
        · simp at hlt
        · exact h
      obtain ⟨ai, ci, hc0, hsl, hm⟩ := hseg k r hrk
      have hfl := flat_at hrk
      have HF : Hid ((rs.take k).flatten.length + r.length ≤ 140737488355328) := Nat.le_trans hfl hl
      have hrl : r.length ≤ 140737488355328 := by omega
      have HX := hide hrk
      have HS := hide hsl
      have HC := hide hc0
      have HG := hide hg
      clear hrk hc0 hsl hm hseg hg hfl
      have hki : (k : Int) < (rs.length : Int) := by omega
      go_wp2
      generalize hPe : (rs.take k).flatten = P at HO HF
      have HP := hide hPe
      clear hPe
      go_loopw [3, 5] (fun v i wq => ∃ (j : Nat), j ≤ r.length ∧ i = .int .i64 j ∧ wq.ownsRow w.heap.size 5 1 v (P ++ r.take j).length ((P ++ r.take j).map B8) ∧ Below w.heap.size w wq)
        (fun _ i _ => r.length - (intOf i).toNat)
      case atStart => exact ⟨0, by omega, rfl, by simpa using HO.out, HB.out⟩
      case round =>
        obtain ⟨j, hj, rfl, hown, hB⟩ := hrel
        have HO2 := hide hown
        have HB2 := hide hB
        have hsz := hB.size
        have hc : wr.cell? ⟨b, off + k, none⟩ = some (.slice ai r.length ci) := (hB.cell (p := ⟨b, off + k, none⟩) hbl).trans HC.out
        clear hown hB
        by_cases hjl : j < r.length
        · obtain ⟨x, hx⟩ : ∃ x, r[j]? = some x := ⟨_, List.getElem?_eq_getElem hjl⟩
          obtain ⟨b2, o2, rfl, hb2, hs2⟩ : ∃ b off, ai = some ⟨b, off, none⟩ ∧ b < w.heap.size ∧ Seg w b off r := by
            rcases HS.out with rfl | h
            · simp at hjl
            · exact h
          have hcx : wr.cell? ⟨b2, o2 + j, none⟩ = some (.int .u8 (x : Int)) := (HB2.out.cell (p := ⟨b2, o2 + j, none⟩) hb2).trans (hs2 j x hx).1
          have hji : (j : Int) < (r.length : Int) := by omega
          have HXX := hide hx
          clear hx hs2
          have HPL : Hid ((P ++ r.take j).length + 1 ≤ 140737488355328) := show _ ≤ _ by have := HF.out; simp; omega
          go_wp2_with (at_builtin; refine wpList_append_own _ rfl _ _ 22 rfl w.heap.size 5 i0 (.int .u8 0) 1 1 Try.underlying22 hi hz0 hz1 hz2 rfl (by omega) _ _ _ rfl (HO2.out.alloc _) ⟨wr.heap.size, 0, none⟩ 1 1 [.int .u8 (x : Int)] rfl rfl (cell_one_new _ _ _) (by simp [Value.oneCell']) (by have := HPL.out; unfold maxLen; omega) (by have := HPL.out; omega) (by simp; omega) ?_; intro v3 w3 hown3 hgrow3 _)
          have HO3 := hide hown3
          have HB3 : Hid (Below w.heap.size w w3) := (HB2.out.alloc (by omega) _).grown hgrow3 (by simp; omega) (fun j e => (HO2.out.lt j e).1)
          clear hown3 hgrow3
          go_wp2
          go_roundw
          case rel =>
            refine ⟨j + 1, by omega, by go_num, ?_, HB3.out⟩
            have h := HO3.out
            rw [List.take_add_one, HXX.out]
            simpa [B8, Nat.add_assoc] using h
          case measure => simp [intOf]; omega
        · have hjj : j = r.length := by omega
          have HJ := hide hjj
          have hji : (r.length : Int) ≤ (j : Int) := by omega
          clear hjj
          go_wp2
          go_roundw
          case rel =>
            refine ⟨k + 1, by omega, by go_num, ?_, HB2.out⟩
            have h := HO2.out
            rw [HJ.out, List.take_length] at h
            rw [flat_next HX.out, HP.out]
            exact h
          case measure => simp [intOf]; omega
    · have hkk : k = rs.length := by omega
      have HK := hide hkk
      have hki : (rs.length : Int) ≤ (k : Int) := by omega
      clear hg hkk
      go_wp2
      go_ret
      have h := HO.out
      rw [HK.out, List.take_length] at h
      exact ⟨_, rfl, h, HB.out⟩


end Go.Proofs.Ytheefdplbmneeaa
