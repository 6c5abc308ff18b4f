/- A gap goes to a place; bytes are put in and taken out. -/
import Derived.Test.YtheefdplbmneeaaGpB
import Derived.Test.YtheefdplbmneeaaPHeld
namespace Go.Proofs.Ytheefdplbmneeaa
open Go.RowKit
set_option linter.unusedVariables false
set_option linter.unusedSimpArgs false

theorem wpList_clearG {ops : Array Oper} {rest : List Oper} {o : Oper} {a : Act} {w : World} {Q : Exit → Act → World → Prop} (hgd : o.guard = none) (d : Operand)
    (ho : o.op = .call { callee := .builtin .clear, args := #[d], argTypes := #[22] })
    (dp : Option Addr) (n dCap : Nat) (hd : a.eval d = .slice dp n dCap)
    (g f to off : Nat) (cur : List Nat) (hg : GapC w g f to cur)
    (hpos : 0 < n → dp = some ⟨g, 3 + off, none⟩) (hfit : off + n ≤ cur.length)
    (h : ∀ w', GapC w' g f to (splice cur off (List.replicate n 0)) → Ke (fun k => k = g) w w' → wpList Try.prog ops Q rest (a.put o.dst (.tuple #[])) w') : wpList Try.prog ops Q (o :: rest) a w :=
  wpList_plain hgd fun K hK => gp_clear d ho dp n dCap hd g f to off cur hg hpos hfit (fun w' h1 h2 => hK _ _ (h w' h1 h2))
theorem cut_from (g l : Nat) (hl : l ≤ 252) : ∃ q n : Nat, (∀ W, (Instr.sliceAt 37 (.pointer (some ⟨g, 3, none⟩)) (some (.int .i64 (l : Int))) none none).run Try.prog W = .ok (.slice (some ⟨g, q, none⟩) (252 - l) n) W) ∧ (l < 252 → q = 3 + l) :=
  ⟨_, _, fun W => gp_from g l hl W, fun _ => if_neg (by omega)⟩
theorem cut_two (g l h : Nat) (hl : l ≤ h) (hh : h ≤ 252) : ∃ q n : Nat, (∀ W, (Instr.sliceAt 37 (.pointer (some ⟨g, 3, none⟩)) (some (.int .i64 (l : Int))) (some (.int .i64 (h : Int))) none).run Try.prog W = .ok (.slice (some ⟨g, q, none⟩) (h - l) n) W) ∧ (l < h → q = 3 + l) :=
  ⟨_, _, fun W => gp_slice g l h hl hh W, fun _ => if_neg (by omega)⟩
section
variable {w : World} {g p : Nat} {S : ByteArray}
set_option maxRecDepth 100000 in
set_option maxHeartbeats 1000000 in
theorem goTo_any (h : GapL w g S p) (q : Nat) (hq : q ≤ S.size) : Calls Try.prog 40 #[.pointer (some ⟨g, 0, none⟩), .int .i64 (q : Int)] w fun e w' => e = .returned (.tuple #[]) ∧ GapL w' g S q ∧ Ke (fun k => k = g) w w' := by
  have hp := h.1
  have hs := h.2.1
  obtain ⟨z, hz⟩ : ∃ z, z = 252 - S.size := ⟨_, rfl⟩
  obtain ⟨to, hto⟩ : ∃ to, to = p + z := ⟨_, rfl⟩
  obtain ⟨d, hd⟩ : ∃ d, d = gD (tx S) p := ⟨_, rfl⟩
  have hdl := h.dlen
  have hdt := h.dlt
  have hg := h.2.2
  have kr := room_b h
  rw [← hz] at hg kr
  rw [← hto] at hg
  rw [← hd] at hg hdl hdt
  have e1 := tx_len S
  have hpI : (p : Int) ≤ 252 := by omega
  have hqI : (q : Int) ≤ 252 := by omega
  have hzI : (z : Int) ≤ 252 := by omega
  have KR := hide kr
  have HH := hide hg
  obtain ⟨q3, n3, s3, hp3'⟩ := cut_two g q (q + z) (by omega) (by omega)
  rw [Nat.add_sub_cancel_left, Int.natCast_add] at s3
  have hp3 : 0 < z → (some ⟨g, q3, none⟩ : Option Addr) = some ⟨g, 3 + q, none⟩ := fun hz0 => by rw [hp3' (by omega)]
  have HP3 := hide hp3
  have HZ := hide hz
  have HQ := hide hq
  have HSZ := hide hs
  have EZ : Hid (((q + z : Nat) : Int) = (q : Int) + (z : Int)) := by show _ = _; omega
  clear hp3 hp3'
  by_cases hlt : q < p
  · have hltI : (q : Int) < (p : Int) := by omega
    obtain ⟨q1, n1, s1, hp1⟩ := cut_two g (q + z) to (by omega) (by omega)
    rw [Int.natCast_add, show to - (q + z) = p - q by omega] at s1
    obtain ⟨q2, n2, s2, hp2⟩ := cut_two g q p (by omega) (by omega)
    obtain ⟨M, hM⟩ : ∃ M, M = ((tx S).drop q).take (p - q) := ⟨_, rfl⟩
    have hcl : M.length = p - q := by rw [hM, List.length_take, List.length_drop]; omega
    have HN : Hid (M.length = Nat.min (p - q) (p - q)) := by show _ = _; rw [hcl]; exact (Nat.min_self _).symm
    have hcd : M = (d.drop q).take (p - q) := by
      rw [hM, hd, ← List.drop_take, ← List.drop_take, gD_head _ _ (by omega)]
    have HF : Hid (q + z + M.length ≤ d.length) := by show _ ≤ _; rw [hcl, hdl]; omega
    have HG : Hid (splice (splice d (q + z) M) q (List.replicate z 0) = gD (tx S) q) := by
      show _ = _
      rw [hM, hd, hz, ← e1]
      exact go_left _ _ _ (by omega) (by omega) (by omega)
    have HF3 : Hid (q + z ≤ (splice d (q + z) M).length) := by show _ ≤ _; rw [length_splice _ _ _ HF.out, hdl]; omega
    have HPQ : ∀ W, GapC W g p to d → (0 < M.length → (some ⟨g, q1, none⟩ : Option Addr) = some ⟨g, 3 + (q + z), none⟩ ∧ Sl W (some ⟨g, q2, none⟩) M) := fun W hW _ => ⟨by rw [hp1 (by omega)], by rw [hp2 (by omega), hcd]; exact hW.sl hdt q (p - q)⟩
    have S1 := hide s1
    have S2 := hide s2
    clear h hg kr hz hto hd hdl hdt e1 hp1 hp2 hcl hcd hM s1 s2 hq hs hp hlt
    go_enter Try.func40, Try.ntmps40
    go_wp2_with (go_at_call 21; refine (KR.out).mono ?_; rintro e w1 ⟨rfl, hb1⟩; have HB := hide hb1; have G1 := hide (HH.out.below hb1 HH.out.lt); clear hb1; have c1 := G1.out.c1; have c2 := G1.out.c2)
    have HP := hide (HPQ _ G1.out)
    refine wp_region_held_drew (S := fun w' => w'.cell? ⟨g, 1, none⟩ = some (.int .i64 (p : Int)) ∧ w'.cell? ⟨g, 2, none⟩ = some (.int .i64 (to : Int))) (by kernel_rfl) ⟨c1, c2⟩ (fun hS => ?_)
    refine wpAnyH_take (i := 0) (v := (.pointer (some ⟨g, 0, none⟩))) rfl (by kernel_rfl) (by kernel_rfl) (by kernel_rfl) (fun _ _ _ h => h) (Or.inl ⟨by kernel_rfl, fun w' hw => by (go_simp)⟩) hS ?_
    refine wpAnyH_take (i := 1) (v := (.pointer (some ⟨g, 0, none⟩))) rfl (by kernel_rfl) (by kernel_rfl) (by kernel_rfl) (fun _ _ _ h => h) (Or.inl ⟨by kernel_rfl, fun w' hw => by (go_simp)⟩) hS ?_
    refine wpAnyH_take (i := 2) (v := (.pointer (some ⟨g, 3, none⟩))) rfl (by kernel_rfl) (by kernel_rfl) (by kernel_rfl) (fun _ _ _ h => h) (Or.inl ⟨by kernel_rfl, fun w' hw => by (go_simp)⟩) hS ?_
    refine wpAnyH_take (i := 3) (v := (.int .i64 ((q : Int) + (z : Int)))) rfl (by kernel_rfl) (by kernel_rfl) (by kernel_rfl) (fun _ _ _ h => h) (Or.inl ⟨by kernel_rfl, fun w' hw => by (go_simp)⟩) hS ?_
    refine wpAnyH_take (i := 4) (v := (.pointer (some ⟨g, 0, none⟩))) rfl (by kernel_rfl) (by kernel_rfl) (by kernel_rfl) (fun _ _ _ h => h) (Or.inl ⟨by kernel_rfl, fun w' hw => by (go_simp)⟩) hS ?_
    refine wpAnyH_take (i := 5) (v := (.pointer (some ⟨g, 0, none⟩))) rfl (by kernel_rfl) (by kernel_rfl) (by kernel_rfl) (fun _ _ _ h => h) (Or.inl ⟨by kernel_rfl, fun w' hw => by (go_simp)⟩) hS ?_
    refine wpAnyH_take (i := 6) (v := (.pointer (some ⟨g, 2, none⟩))) rfl (by kernel_rfl) (by kernel_rfl) (by kernel_rfl) (fun _ _ _ h => h) (Or.inl ⟨by kernel_rfl, fun w' hw => by (go_simp)⟩) hS ?_
    refine wpAnyH_take (i := 7) (v := (.int .i64 (to : Int))) rfl (by kernel_rfl) (by kernel_rfl) (by kernel_rfl) (fun _ _ _ h => h) (Or.inl ⟨by kernel_rfl, fun w' hw => by (go_simp)⟩) hS ?_
    refine wpAnyH_take (i := 8) (v := (.slice (some ⟨g, q1, none⟩) (p - q) n1)) rfl (by kernel_rfl) (by kernel_rfl) (by kernel_rfl) (fun _ _ _ h => h) (Or.inl ⟨by kernel_rfl, fun w' hw => by (have s1 := S1.out; go_simp)⟩) hS ?_
    refine wpAnyH_take (i := 9) (v := (.pointer (some ⟨g, 0, none⟩))) rfl (by kernel_rfl) (by kernel_rfl) (by kernel_rfl) (fun _ _ _ h => h) (Or.inl ⟨by kernel_rfl, fun w' hw => by (go_simp)⟩) hS ?_
    refine wpAnyH_take (i := 10) (v := (.pointer (some ⟨g, 0, none⟩))) rfl (by kernel_rfl) (by kernel_rfl) (by kernel_rfl) (fun _ _ _ h => h) (Or.inl ⟨by kernel_rfl, fun w' hw => by (go_simp)⟩) hS ?_
    refine wpAnyH_take (i := 11) (v := (.pointer (some ⟨g, 3, none⟩))) rfl (by kernel_rfl) (by kernel_rfl) (by kernel_rfl) (fun _ _ _ h => h) (Or.inl ⟨by kernel_rfl, fun w' hw => by (go_simp)⟩) hS ?_
    refine wpAnyH_take (i := 12) (v := (.int .i64 (q : Int))) rfl (by kernel_rfl) (by kernel_rfl) (by kernel_rfl) (fun _ _ _ h => h) (Or.inl ⟨by kernel_rfl, fun w' hw => by (go_simp)⟩) hS ?_
    refine wpAnyH_take (i := 13) (v := (.pointer (some ⟨g, 0, none⟩))) rfl (by kernel_rfl) (by kernel_rfl) (by kernel_rfl) (fun _ _ _ h => h) (Or.inl ⟨by kernel_rfl, fun w' hw => by (go_simp)⟩) hS ?_
    refine wpAnyH_take (i := 14) (v := (.pointer (some ⟨g, 0, none⟩))) rfl (by kernel_rfl) (by kernel_rfl) (by kernel_rfl) (fun _ _ _ h => h) (Or.inl ⟨by kernel_rfl, fun w' hw => by (go_simp)⟩) hS ?_
    refine wpAnyH_take (i := 15) (v := (.pointer (some ⟨g, 1, none⟩))) rfl (by kernel_rfl) (by kernel_rfl) (by kernel_rfl) (fun _ _ _ h => h) (Or.inl ⟨by kernel_rfl, fun w' hw => by (go_simp)⟩) hS ?_
    refine wpAnyH_take (i := 16) (v := (.int .i64 (p : Int))) rfl (by kernel_rfl) (by kernel_rfl) (by kernel_rfl) (fun _ _ _ h => h) (Or.inl ⟨by kernel_rfl, fun w' hw => by (go_simp)⟩) hS ?_
    refine wpAnyH_take (i := 17) (v := (.slice (some ⟨g, q2, none⟩) (p - q) n2)) rfl (by kernel_rfl) (by kernel_rfl) (by kernel_rfl) (fun _ _ _ h => h) (Or.inl ⟨by kernel_rfl, fun w' hw => by (have s2 := S2.out; go_simp)⟩) hS ?_
    refine gp_op (i := 18) (by kernel_rfl) rfl (by kernel_rfl) (by kernel_rfl) (gp_copy (.tmp 23) (.tmp 32) rfl (some ⟨g, q1, none⟩) (some ⟨g, q2, none⟩) (p - q) n1 (p - q) n2 (by kernel_rfl) (by kernel_rfl) g p to (q + z) d M G1.out HN.out HP.out HF.out (fun w2 g2 k2 => ⟨⟨g2.c1, g2.c2⟩, ?_⟩))
    simp only [Act.put, List.getElem_toArray, List.getElem_cons_zero, List.getElem_cons_succ, List.setIfInBounds_toArray, List.set_cons_zero, List.set_cons_succ]
    have c1 := g2.c1
    have c2 := g2.c2
    have f1 := g2.frozen 1
    have f2 := g2.frozen 2
    have g3 := hide ((g2.set1 q).set2 (q + z))
    have k3 := hide ((k2.trans (Ke.set w2 g 1 (.int .i64 (q : Int)) rfl)).trans (Ke.set (w2.setCell ⟨g, 1, none⟩ (.int .i64 (q : Int))) g 2 (.int .i64 ((q + z : Nat) : Int)) rfl))
    rw [EZ.out] at g3 k3
    clear g2 k2
    go_wp2_with (refine wpList_clearG rfl (.tmp 66) rfl (some ⟨g, q3, none⟩) z n3 (by kernel_rfl) g q (q + z) q _ g3.out HP3.out HF3.out ?_; intro w4 g4 k4)
    have G4 := hide g4
    have K4 := hide (k3.out.trans k4)
    clear g4 k4
    go_wp2
    go_end0
    refine ⟨rfl, ⟨HQ.out, HSZ.out, ?_⟩, (Ke.of_below HB.out).trans (Ke.trans (Ke.of_below ((Below.refl _ w1).drew)) K4.out)⟩
    have hh := G4.out
    rw [HG.out] at hh
    rw [← HZ.out]
    exact hh
  · have hltI : ¬ ((q : Int) < (p : Int)) := by omega
    obtain ⟨q1, n1, s1, hp1⟩ := cut_two g p q (by omega) (by omega)
    obtain ⟨q2, n2, s2, hp2⟩ := cut_two g to (q + z) (by omega) (by omega)
    rw [Int.natCast_add, show q + z - to = q - p by omega] at s2
    obtain ⟨M, hM⟩ : ∃ M, M = ((tx S).drop p).take (q - p) := ⟨_, rfl⟩
    have hcl : M.length = q - p := by rw [hM, List.length_take, List.length_drop]; omega
    have HN : Hid (M.length = Nat.min (q - p) (q - p)) := by show _ = _; rw [hcl]; exact (Nat.min_self _).symm
    have hcd : M = (d.drop to).take (q - p) := by
      rw [hM, hd, hto, hz, ← e1, gD_tail _ _ (by omega) (by omega)]
    have HF : Hid (p + M.length ≤ d.length) := by show _ ≤ _; rw [hcl, hdl]; omega
    have HG : Hid (splice (splice d p M) q (List.replicate z 0) = gD (tx S) q) := by
      show _ = _
      rw [hM, hd, hz, ← e1]
      exact go_right _ _ _ (by omega) (by omega) (by omega)
    have HF3 : Hid (q + z ≤ (splice d p M).length) := by show _ ≤ _; rw [length_splice _ _ _ HF.out, hdl]; omega
    have HPQ : ∀ W, GapC W g p to d → (0 < M.length → (some ⟨g, q1, none⟩ : Option Addr) = some ⟨g, 3 + p, none⟩ ∧ Sl W (some ⟨g, q2, none⟩) M) := fun W hW _ => ⟨by rw [hp1 (by omega)], by rw [hp2 (by omega), hcd]; exact hW.sl hdt to (q - p)⟩
    have S1 := hide s1
    have S2 := hide s2
    clear h hg kr hz hto hd hdl hdt e1 hp1 hp2 hcl hcd hM s1 s2 hq hs hp hlt
    go_enter Try.func40, Try.ntmps40
    go_wp2_with (go_at_call 21; refine (KR.out).mono ?_; rintro e w1 ⟨rfl, hb1⟩; have HB := hide hb1; have G1 := hide (HH.out.below hb1 HH.out.lt); clear hb1; have c1 := G1.out.c1; have c2 := G1.out.c2)
    have HP := hide (HPQ _ G1.out)
    refine wp_region_held_drew (S := fun w' => w'.cell? ⟨g, 1, none⟩ = some (.int .i64 (p : Int)) ∧ w'.cell? ⟨g, 2, none⟩ = some (.int .i64 (to : Int))) (by kernel_rfl) ⟨c1, c2⟩ (fun hS => ?_)
    refine wpAnyH_take (i := 0) (v := (.pointer (some ⟨g, 0, none⟩))) rfl (by kernel_rfl) (by kernel_rfl) (by kernel_rfl) (fun _ _ _ h => h) (Or.inl ⟨by kernel_rfl, fun w' hw => by (go_simp)⟩) hS ?_
    refine wpAnyH_take (i := 1) (v := (.pointer (some ⟨g, 0, none⟩))) rfl (by kernel_rfl) (by kernel_rfl) (by kernel_rfl) (fun _ _ _ h => h) (Or.inl ⟨by kernel_rfl, fun w' hw => by (go_simp)⟩) hS ?_
    refine wpAnyH_take (i := 2) (v := (.pointer (some ⟨g, 3, none⟩))) rfl (by kernel_rfl) (by kernel_rfl) (by kernel_rfl) (fun _ _ _ h => h) (Or.inl ⟨by kernel_rfl, fun w' hw => by (go_simp)⟩) hS ?_
    refine wpAnyH_take (i := 3) (v := (.pointer (some ⟨g, 0, none⟩))) rfl (by kernel_rfl) (by kernel_rfl) (by kernel_rfl) (fun _ _ _ h => h) (Or.inl ⟨by kernel_rfl, fun w' hw => by (go_simp)⟩) hS ?_
    refine wpAnyH_take (i := 4) (v := (.pointer (some ⟨g, 0, none⟩))) rfl (by kernel_rfl) (by kernel_rfl) (by kernel_rfl) (fun _ _ _ h => h) (Or.inl ⟨by kernel_rfl, fun w' hw => by (go_simp)⟩) hS ?_
    refine wpAnyH_take (i := 5) (v := (.pointer (some ⟨g, 1, none⟩))) rfl (by kernel_rfl) (by kernel_rfl) (by kernel_rfl) (fun _ _ _ h => h) (Or.inl ⟨by kernel_rfl, fun w' hw => by (go_simp)⟩) hS ?_
    refine wpAnyH_take (i := 6) (v := (.int .i64 (p : Int))) rfl (by kernel_rfl) (by kernel_rfl) (by kernel_rfl) (fun _ _ _ h => h) (Or.inl ⟨by kernel_rfl, fun w' hw => by (go_simp)⟩) hS ?_
    refine wpAnyH_take (i := 7) (v := (.int .i64 (q : Int))) rfl (by kernel_rfl) (by kernel_rfl) (by kernel_rfl) (fun _ _ _ h => h) (Or.inl ⟨by kernel_rfl, fun w' hw => by (go_simp)⟩) hS ?_
    refine wpAnyH_take (i := 8) (v := (.slice (some ⟨g, q1, none⟩) (q - p) n1)) rfl (by kernel_rfl) (by kernel_rfl) (by kernel_rfl) (fun _ _ _ h => h) (Or.inl ⟨by kernel_rfl, fun w' hw => by (have s1 := S1.out; go_simp)⟩) hS ?_
    refine wpAnyH_take (i := 9) (v := (.pointer (some ⟨g, 0, none⟩))) rfl (by kernel_rfl) (by kernel_rfl) (by kernel_rfl) (fun _ _ _ h => h) (Or.inl ⟨by kernel_rfl, fun w' hw => by (go_simp)⟩) hS ?_
    refine wpAnyH_take (i := 10) (v := (.pointer (some ⟨g, 0, none⟩))) rfl (by kernel_rfl) (by kernel_rfl) (by kernel_rfl) (fun _ _ _ h => h) (Or.inl ⟨by kernel_rfl, fun w' hw => by (go_simp)⟩) hS ?_
    refine wpAnyH_take (i := 11) (v := (.pointer (some ⟨g, 3, none⟩))) rfl (by kernel_rfl) (by kernel_rfl) (by kernel_rfl) (fun _ _ _ h => h) (Or.inl ⟨by kernel_rfl, fun w' hw => by (go_simp)⟩) hS ?_
    refine wpAnyH_take (i := 12) (v := (.pointer (some ⟨g, 0, none⟩))) rfl (by kernel_rfl) (by kernel_rfl) (by kernel_rfl) (fun _ _ _ h => h) (Or.inl ⟨by kernel_rfl, fun w' hw => by (go_simp)⟩) hS ?_
    refine wpAnyH_take (i := 13) (v := (.pointer (some ⟨g, 0, none⟩))) rfl (by kernel_rfl) (by kernel_rfl) (by kernel_rfl) (fun _ _ _ h => h) (Or.inl ⟨by kernel_rfl, fun w' hw => by (go_simp)⟩) hS ?_
    refine wpAnyH_take (i := 14) (v := (.pointer (some ⟨g, 2, none⟩))) rfl (by kernel_rfl) (by kernel_rfl) (by kernel_rfl) (fun _ _ _ h => h) (Or.inl ⟨by kernel_rfl, fun w' hw => by (go_simp)⟩) hS ?_
    refine wpAnyH_take (i := 15) (v := (.int .i64 (to : Int))) rfl (by kernel_rfl) (by kernel_rfl) (by kernel_rfl) (fun _ _ _ h => h) (Or.inl ⟨by kernel_rfl, fun w' hw => by (go_simp)⟩) hS ?_
    refine wpAnyH_take (i := 16) (v := (.int .i64 ((q : Int) + (z : Int)))) rfl (by kernel_rfl) (by kernel_rfl) (by kernel_rfl) (fun _ _ _ h => h) (Or.inl ⟨by kernel_rfl, fun w' hw => by (go_simp)⟩) hS ?_
    refine wpAnyH_take (i := 17) (v := (.slice (some ⟨g, q2, none⟩) (q - p) n2)) rfl (by kernel_rfl) (by kernel_rfl) (by kernel_rfl) (fun _ _ _ h => h) (Or.inl ⟨by kernel_rfl, fun w' hw => by (have s2 := S2.out; go_simp)⟩) hS ?_
    refine gp_op (i := 18) (by kernel_rfl) rfl (by kernel_rfl) (by kernel_rfl) (gp_copy (.tmp 42) (.tmp 51) rfl (some ⟨g, q1, none⟩) (some ⟨g, q2, none⟩) (q - p) n1 (q - p) n2 (by kernel_rfl) (by kernel_rfl) g p to p d M G1.out HN.out HP.out HF.out (fun w2 g2 k2 => ⟨⟨g2.c1, g2.c2⟩, ?_⟩))
    simp only [Act.put, List.getElem_toArray, List.getElem_cons_zero, List.getElem_cons_succ, List.setIfInBounds_toArray, List.set_cons_zero, List.set_cons_succ]
    have c1 := g2.c1
    have c2 := g2.c2
    have f1 := g2.frozen 1
    have f2 := g2.frozen 2
    have g3 := hide ((g2.set1 q).set2 (q + z))
    have k3 := hide ((k2.trans (Ke.set w2 g 1 (.int .i64 (q : Int)) rfl)).trans (Ke.set (w2.setCell ⟨g, 1, none⟩ (.int .i64 (q : Int))) g 2 (.int .i64 ((q + z : Nat) : Int)) rfl))
    rw [EZ.out] at g3 k3
    clear g2 k2
    go_wp2_with (refine wpList_clearG rfl (.tmp 66) rfl (some ⟨g, q3, none⟩) z n3 (by kernel_rfl) g q (q + z) q _ g3.out HP3.out HF3.out ?_; intro w4 g4 k4)
    have G4 := hide g4
    have K4 := hide (k3.out.trans k4)
    clear g4 k4
    go_wp2
    go_end0
    refine ⟨rfl, ⟨HQ.out, HSZ.out, ?_⟩, (Ke.of_below HB.out).trans (Ke.trans (Ke.of_below ((Below.refl _ w1).drew)) K4.out)⟩
    have hh := G4.out
    rw [HG.out] at hh
    rw [← HZ.out]
    exact hh
end
end Go.Proofs.Ytheefdplbmneeaa
