/- Package scan: a line of three tokens, read and printed (what every statement asks first). -/
import Derived.Test.YtaljllbfedfpoaaGreatDoorSPrnW
import Derived.Test.YtaljllbfedfpoaaGreatDoorSScnW
namespace Go.Proofs.YtaljllbfedfpoaaGreatDoor
open Go.RowKit Go.Shelf
set_option linter.unusedVariables false

def toI (t : Tk) : TkI := (t.1, (t.2.1 : Int), ⟨t.2.2.1.toArray⟩, t.2.2.2)
theorem flat_get (ts : List Tk) (i j : Nat) (x : Tk) (hx : ts[i]? = some x) (hj : j < 4) : (ts.flatMap tkC)[i * 4 + j]? = (tkC x)[j]? := by
  induction ts generalizing i with
  | nil => simp at hx
  | cons y ys ih =>
    rw [List.flatMap_cons]
    cases i with
    | zero =>
      simp only [List.getElem?_cons_zero, Option.some.injEq] at hx
      subst hx
      rw [List.getElem?_append_left (by simp [tkC]; omega)]
      congr 1
      omega
    | succ i =>
      simp only [List.getElem?_cons_succ] at hx
      rw [List.getElem?_append_right (by simp [tkC]; omega), ← ih i hx]
      congr 1
      simp [tkC]
      omega
theorem RowT.slk {W : World} {base : Nat} {v : Value} {ts : List Tk} (h : RowT W base v ts) : ∃ a cap, v = .slice a ts.length cap ∧ SlK W a (ts.map toI) := by
  rcases h.2 with ⟨h1, h2⟩ | ⟨g, cap, cur, hv, hg, hh, hnc, hcap, hs, hc⟩
  · have : ts = [] := List.eq_nil_of_length_eq_zero h2
    subst this
    exact ⟨none, 0, h1, .inl rfl⟩
  · refine ⟨_, cap, hv, .inr ⟨g, 0, rfl, (Array.getElem?_eq_some_iff.1 hh).1, fun i x hx => ?_⟩⟩
    rw [List.getElem?_map] at hx
    obtain ⟨y, hy, rfl⟩ := Option.map_eq_some_iff.1 hx
    have hi : i < ts.length := (List.getElem?_eq_some_iff.1 hy).1
    have key : ∀ j (u : Value), j < 4 → (tkC y)[j]? = some u → W.cell? ⟨g, 0 + i * 4 + j, none⟩ = some u := by
      intro j u hj hu
      have h1 := flat_get ts i j y hy hj
      rw [hu, ← hc, List.getElem?_take, if_pos (by omega)] at h1
      refine celS hh _ _ ?_
      rw [Nat.zero_add]
      simpa using h1
    exact ⟨key 0 _ (by omega) rfl, key 1 _ (by omega) rfl, key 2 _ (by omega) rfl, key 3 _ (by omega) rfl⟩
set_option maxRecDepth 100000 in
theorem sc_works : Sc [97, 32, 49, 50, 32, 34, 98, 92, 110, 34] 0 [] = .inl [(1, 0, [97], 0), (2, 2, [], 12), (3, 5, [98, 10], 0)] := by decide +kernel
set_option maxRecDepth 100000 in
theorem pr_works : prV [(1, 0, ⟨#[97]⟩, 0), (2, 2, ⟨#[]⟩, 12), (3, 5, ⟨#[98, 10]⟩, 0)] = ([97, 32, 49, 50, 32, 34, 98, 92, 110, 34], 0) := by decide +kernel
theorem Tryz.noGuardTk : Tryz.prog.eqGuardType Tryz.prog.depth 28 = false := by kernel_rfl
theorem Tryz.noHeldTk : Tryz.prog.stoodInHeld 28 = false := by kernel_rfl
theorem Tryz.fieldsTk : Tryz.prog.underlying 28 = some (.struct (Tryz.prog.fieldsOf 28)) := by kernel_rfl
theorem eql_tk (k a : Int) (t : ByteArray) (n : Int) (w : World) : (Op.equalIn 10000 28 (.agg #[.int .i64 k, .int .i64 a, .string t, .int .i64 n]) (.agg #[.int .i64 k, .int .i64 a, .string t, .int .i64 n])).run Tryz.prog w = .ok true w := by
  rw [run_equalIn_agg w 9999 28 _ _ Tryz.fieldsTk Tryz.noHeldTk]
  have u3 := Tryz.underlying3
  have u9 := Tryz.underlying9
  have a3 := Tryz.isAgg3
  have a9 := Tryz.isAgg9
  unfold Program.fieldsOf
  rw [Tryz.underlying28]
  simp [Op.eqFields, part, u3, u9, a3, a9, go_sem]
theorem three_cells {W : World} {a : Option Addr} {x0 x1 x2 : TkI} (h : SlK W a [x0, x1, x2]) : ∃ b off, a = some ⟨b, off, none⟩ ∧
    (W.cell? ⟨b, off, none⟩ = some (.int .i64 x0.1) ∧ W.cell? ⟨b, off + 1, none⟩ = some (.int .i64 x0.2.1) ∧ W.cell? ⟨b, off + 2, none⟩ = some (.string x0.2.2.1) ∧ W.cell? ⟨b, off + 3, none⟩ = some (.int .i64 x0.2.2.2)) ∧
    (W.cell? ⟨b, off + 4, none⟩ = some (.int .i64 x1.1) ∧ W.cell? ⟨b, off + 5, none⟩ = some (.int .i64 x1.2.1) ∧ W.cell? ⟨b, off + 6, none⟩ = some (.string x1.2.2.1) ∧ W.cell? ⟨b, off + 7, none⟩ = some (.int .i64 x1.2.2.2)) ∧
    (W.cell? ⟨b, off + 8, none⟩ = some (.int .i64 x2.1) ∧ W.cell? ⟨b, off + 9, none⟩ = some (.int .i64 x2.2.1) ∧ W.cell? ⟨b, off + 10, none⟩ = some (.string x2.2.2.1) ∧ W.cell? ⟨b, off + 11, none⟩ = some (.int .i64 x2.2.2.2)) := by
  rcases h with h | ⟨b, off, ha, hb, hc⟩
  · cases h
  · exact ⟨b, off, ha, hc 0 x0 rfl, hc 1 x1 rfl, hc 2 x2 rfl⟩
set_option maxRecDepth 100000 in
set_option maxHeartbeats 8000000 in
theorem works_any (w : World) (hL : LaidW w) (hZ : LaidZ w) : Calls Tryz.prog 11 #[] w fun e w' => e = .returned (.bool true) ∧ Below w.heap.size w w' := by
  have ks := scan_any ⟨#[97, 32, 49, 50, 32, 34, 98, 92, 110, 34]⟩ w (by decide) hL
  rw [show bl ⟨#[97, 32, 49, 50, 32, 34, 98, 92, 110, 34]⟩ = [97, 32, 49, 50, 32, 34, 98, 92, 110, 34] from rfl, sc_works] at ks
  have KS := hide ks
  have HL := hide hL
  have HZ := hide hZ
  have g0 := Tryz.noGuardTk
  have g1 := fun W => eql_tk 1 0 ⟨#[97]⟩ 0 W
  have g2 := fun W => eql_tk 2 2 ⟨#[]⟩ 12 W
  have g3 := fun W => eql_tk 3 5 ⟨#[98, 10]⟩ 0 W
  clear ks hL hZ
  go_enter Tryz.func11, Tryz.ntmps11
  go_wp2_with (fail)
  refine (KS.out).mono ?_
  rintro e x ⟨v, rfl, hrow, hbx⟩
  obtain ⟨a, cap, rfl, hsl0⟩ := hrow.slk
  have hsl : SlK x a [(1, 0, ⟨#[97]⟩, 0), (2, 2, ⟨#[]⟩, 12), (3, 5, ⟨#[98, 10]⟩, 0)] := hsl0
  have kp := print_any a cap [(1, 0, ⟨#[97]⟩, 0), (2, 2, ⟨#[]⟩, 12), (3, 5, ⟨#[98, 10]⟩, 0)] x hsl (HL.out.below hbx) (HZ.out.below hbx) (by decide) (by decide)
  rw [pr_works] at kp
  have KP := hide kp
  have HSL := hide hsl
  have HBX := hide hbx
  clear kp hsl hsl0 hbx hrow
  go_wp2_with (go_at_call 20; refine (KP.out).mono ?_; rintro e y ⟨rfl, hby⟩; obtain ⟨b0, off, ha, ⟨c00, c01, c02, c03⟩, ⟨c10, c11, c12, c13⟩, ⟨c20, c21, c22, c23⟩⟩ := three_cells (HSL.out.below hby); have HBY := hide (bseq HBX.out hby); clear hby; subst ha)
  go_ret
  exact ⟨rfl, HBY.out⟩
end Go.Proofs.YtaljllbfedfpoaaGreatDoor
