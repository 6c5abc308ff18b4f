/- The road of LinesSeam: behind a byte 0A lines are those of what stands there alone. -/
import Derived.Test.YtegplcomhahpfaaLSplit
import Derived.Test.YtegplcomhahpfaaLWorks
import Derived.Deep.DeepCutAuto
import Derived.BigQuiet
namespace Go.Proofs.Ytegplcomhahpfaa.linesSeam
open Go.RowKit Go.Shelf Go.Proofs.Ytegplcomhahpfaa
set_option linter.unusedVariables false

set_option maxRecDepth 100000 in
set_option maxHeartbeats 2000000 in
theorem eqTexts_yes (b1 b2 g1 g2 n c1 c2 : Nat) (xs : List Value) (hn : xs.length = n) (hst : ∀ (k : Nat) (v : Value), xs[k]? = some v → ∃ t : ByteArray, v = .string t) (w : World) (h1 : SlS w b1 g1 xs) (h2 : SlS w b2 g2 xs) (hb : n ≤ 2199023255556) :
    Calls Try.prog 14 #[.slice (some ⟨g1, 0, none⟩) n c1, .slice (some ⟨g2, 0, none⟩) n c2] w fun e w' => e = .returned (.bool true) ∧ Below w.heap.size w w' := by
  have hnI : (n : Int) ≤ 2199023255556 := by omega
  have HN := hide hn
  have HST := hide hst
  have H1 := hide h1
  have H2 := hide h2
  clear hn hst h1 h2 hb
  go_enter Try.func14, Try.ntmps14
  go_wp2
  go_loopw [5] (fun q w' => ∃ i m : Nat, q = .int .i64 (i : Int) ∧ i ≤ n ∧ Below w.heap.size w w') (fun q _ => (n - intOf q).toNat)
  case atStart => exact ⟨0, 0, rfl, by omega, Below.refl _ _⟩
  case round =>
    obtain ⟨i, -, rfl, hin, hB⟩ := hrel
    by_cases hlt : i < n
    · have hltI : (i : Int) < (n : Int) := by omega
      obtain ⟨v, hv⟩ : ∃ v, xs[i]? = some v := ⟨_, List.getElem?_eq_getElem (by rw [HN.out]; exact hlt)⟩
      obtain ⟨t, rfl⟩ := HST.out i v hv
      have z1 := (H1.out.below hB).2.2 i _ hv
      have z2 := (H2.out.below hB).2.2 i _ hv
      have HB := hide hB
      clear hB hv
      have mk : ∀ W, Below wr.heap.size wr W → (Below wr.heap.size wr W ∧ W.cell? ⟨g1, i, none⟩ = some (.string t) ∧ W.cell? ⟨g2, i, none⟩ = some (.string t)) := fun W h => ⟨h, (h.cell (p := ⟨g1, i, none⟩) (World.block_lt_of_cell? _ _ z1)).trans z1, (h.cell (p := ⟨g2, i, none⟩) (World.block_lt_of_cell? _ _ z2)).trans z2⟩
      have MK := hide mk
      clear mk
      go_upto_region 6 with (fail)
      go_region_held3 (fun W => Below wr.heap.size wr W ∧ W.cell? ⟨g1, i, none⟩ = some (.string t) ∧ W.cell? ⟨g2, i, none⟩ = some (.string t)) (exact MK.out _ (Below.refl _ _).drew) (fail)
      go_wp2
      go_roundw
      case rel => exact ⟨i + 1, 0, by go_num, by omega, HB.out.drew⟩
      case measure => simp [intOf]; omega
    · have hltI : (n : Int) ≤ (i : Int) := by omega
      have HB := hide hB
      clear hB
      go_wp2
      go_ret
      exact ⟨rfl, HB.out⟩

/-- A text out of bytes. -/
def tvl (l : List UInt8) : Value := .string ⟨l.toArray⟩
theorem txS_tvl (s : ByteArray) (x : Nat × Nat × Nat) : txS s x = tvl (txL (bl s) x) := by
  unfold txS tvl txL
  rw [← bl_extract]
  congr 1
theorem map_txS (s : ByteArray) : (Ls (bl s)).map (txS s) = (Tx (bl s)).map tvl := by
  unfold Tx
  rw [List.map_map]
  apply List.map_congr_left
  intro x _
  exact txS_tvl s x
theorem tvl_string (xs : List (List UInt8)) (k : Nat) (v : Value) (h : (xs.map tvl)[k]? = some v) : ∃ t : ByteArray, v = .string t := by
  rw [List.getElem?_map] at h
  cases hx : xs[k]? with
  | none => rw [hx] at h; cases h
  | some x => rw [hx] at h; cases h; exact ⟨_, rfl⟩
theorem sofar_some {A : List UInt8} (h1 : 1 ≤ A.length) (h2 : by' A (A.length - 1) = 10) : 1 ≤ (sofar A A.length).2.length := by
  have h3 := (sofar_chn A A.length).1
  have h4 := sofar_at h1 h2
  cases h5 : (sofar A A.length).2 with
  | nil => have := h3 h5; omega
  | cons x y => simp

set_option maxRecDepth 100000 in
set_option maxHeartbeats 4000000 in
theorem walk (a b : ByteArray) (w : World) (ha : a.size ≤ 1048576) (hb : b.size ≤ 1048576) :
    Calls Try.prog 5 #[.string a, .string b] w fun e w' => e = .returned (.bool true) ∧ Below w.heap.size w w' := by
  obtain ⟨A, hA⟩ : ∃ A : ByteArray, a ++ ⟨#[10]⟩ = A := ⟨_, rfl⟩
  obtain ⟨C, hC⟩ : ∃ C : ByteArray, A ++ b = C := ⟨_, rfl⟩
  have hAz : A.size = a.size + 1 := by rw [← hA, ByteArray.size_append]; rfl
  have hCz : C.size = a.size + 1 + b.size := by rw [← hC, ByteArray.size_append, hAz]
  have hadd1 := fun w => run_string_add_sum (P := Try.prog) w a ⟨#[10]⟩ (by show a.size + 1 ≤ _; omega)
  have hadd2 := fun w => run_string_add_sum (P := Try.prog) w A b (by omega)
  rw [hA] at hadd1
  rw [hC] at hadd2
  have hblA : bl A = bl a ++ [10] := by rw [← hA]; unfold bl; simp
  have hblC : bl C = bl A ++ bl b := by rw [← hC]; unfold bl; simp
  have hA1 : 1 ≤ (bl A).length := by rw [bl_len]; omega
  have hA10 : by' (bl A) ((bl A).length - 1) = 10 := by rw [hblA]; unfold by'; simp
  have hTA := Tx_left hA1 hA10
  have hTC := Tx_app (B := bl b) hA1 hA10
  rw [← hblC] at hTC
  have hso := sofar_some hA1 hA10
  have ksA := fun w' => split_any A w' (by omega)
  have ksB := fun w' => split_any b w' (by omega)
  have ksC := fun w' => split_any C w' (by omega)
  rw [map_txS, ← Tx_len] at ksA ksB ksC
  have hlenA := Ls_len (bl A)
  have hlenB := Ls_len (bl b)
  have hposB := Ls_pos (bl b)
  rw [bl_len, ← Tx_len] at hlenA hlenB
  rw [← Tx_len] at hposB
  obtain ⟨L, hL⟩ : ∃ L, (sofar (bl A) (bl A).length).2.map (txL (bl A)) = L := ⟨_, rfl⟩
  rw [hL] at hTA hTC
  have hLl : 1 ≤ L.length := by rw [← hL, List.length_map]; exact hso
  rw [hTA] at ksA hlenA
  rw [hTC] at ksC
  obtain ⟨M, hM⟩ : ∃ M, Tx (bl b) = M := ⟨_, rfl⟩
  rw [hM] at ksB ksC hlenB hposB
  obtain ⟨n, hn⟩ : ∃ n, L.length = n := ⟨_, rfl⟩
  obtain ⟨m, hm⟩ : ∃ m, M.length = m := ⟨_, rfl⟩
  simp only [List.length_append, List.length_singleton, hn, hm] at ksA ksB ksC hlenA hlenB hposB hLl
  have KA := hide ksA
  have KB := hide ksB
  have KC := hide ksC
  have HN := hide hn
  have HM := hide hm
  have hn1 : (1 : Int) ≤ (n : Int) := by omega
  have hm1 : (1 : Int) ≤ (m : Int) := by omega
  have hnb : (n : Int) ≤ 1048578 := by omega
  have hmb : (m : Int) ≤ 1048578 := by omega
  have HNB := hide (show n ≤ 1048578 ∧ m ≤ 1048578 ∧ 1 ≤ n ∧ 1 ≤ m by omega)
  clear ksA ksB ksC hTA hTC hso hA1 hA10 hblA hblC hL hM hlenA hlenB hposB hLl hn hm hAz hCz
  obtain ⟨i0, hi, hz0, hz1, hz2⟩ := info_parts Try.infoS
  go_enter Try.func5, Try.ntmps5
  go_upto_region 3 with (first | (go_at_call 13; refine (KA.out _).mono ?_; rintro e w1 ⟨⟨g1, rfl, hs1⟩, hB1⟩; clear KA) | (go_at_call 13; refine (KB.out _).mono ?_; rintro e w2 ⟨⟨g2, rfl, hs2⟩, hB2⟩; clear KB) | (go_at_call 13; refine (KC.out _).mono ?_; rintro e w3 ⟨⟨g3, rfl, hs3⟩, hB3⟩; clear KC))
  have s1 := (hs1.below hB2).below hB3
  have s2 := hs2.below hB3
  have hBX : Below w.heap.size w w3 := bseq (bseq hB1 hB2) hB3
  have c1 : w3.cell? ⟨g1, n, none⟩ = some (.string ⟨#[]⟩) := s1.2.2 n _ (by rw [List.getElem?_map, List.getElem?_append_right (by rw [HN.out]; omega), HN.out, Nat.sub_self]; rfl)
  have hsub : ((n : Int) + 1) - 1 = (n : Int) := by omega
  have S1 := hide s1
  have S2 := hide s2
  have S3 := hide hs3
  have HBX := hide hBX
  have hl2 : ((n : Int) + 1 < 2) = False := by simp; omega
  have hnews1 : ∀ j u, (L.map tvl)[j]? = some u → w3.cell? ((⟨g1, 0, none⟩ : Addr).add j) = some u := fun j u hu => by
    have hj : j < L.length := by have := (List.getElem?_eq_some_iff.1 hu).1; simpa using this
    have := S1.out.2.2 j u (by rw [List.map_append, List.getElem?_append_left (by simpa using hj)]; exact hu)
    cases j with
    | zero => simpa [Addr.add] using this
    | succ j => simpa [Addr.add] using this
  have HNW1 := hide hnews1
  clear s1 s2 hs1 hs2 hs3 hB1 hB2 hB3 hBX hnews1
  go_upto_region 7 with (at_builtin; refine wpList_append_own_at _ rfl _ _ 34 rfl w3.heap.size 9 i0 (.string ⟨#[]⟩) 1 16 Try.underlying34 hi hz0 hz1 hz2 rfl (by decide) (.slice none 0 0) 0 [] rfl (World.ownsRow_nil _ _ _ _) ⟨g1, 0, none⟩ n (n + 1) (L.map tvl) rfl (by simp [HN.out]) HNW1.out (by intro u hu; obtain ⟨x, _, rfl⟩ := List.mem_map.1 hu; rfl) (by simp only [maxLen]; have := HNB.out; omega) (by have := HNB.out; omega) (Nat.le_refl _) ?_; intro v4 w4 hown4 hgrow4 hnil4 hat4)
  simp only [Nat.zero_add, List.nil_append] at hown4
  have hB4 : Below w3.heap.size w3 w4 := (Below.refl _ w3).grown hgrow4 (Nat.le_refl _) (fun k e => by cases e)
  obtain ⟨g4, cap4, rfl⟩ : ∃ g4 cap4, v4 = .slice (some ⟨g4, 0, none⟩) n cap4 := by
    rcases hown4.2 with ⟨_, h0⟩ | ⟨g, cap, cur, h1, _⟩
    · have := HNB.out; omega
    · exact ⟨g, cap, h1⟩
  have hg4 : w3.heap.size ≤ g4 := by
    rcases hown4.2 with ⟨h1, h0⟩ | ⟨g, cap, cur, h1, h2, _⟩
    · cases h1
    · cases h1; exact h2
  have hnews2 : ∀ j u, (M.map tvl)[j]? = some u → w4.cell? ((⟨g2, 0, none⟩ : Addr).add j) = some u := fun j u hu => by
    have := (S2.out.below hB4).2.2 j u hu
    cases j with
    | zero => simpa [Addr.add] using this
    | succ j => simpa [Addr.add] using this
  have HNW2 := hide hnews2
  have HOWN4 := hide hown4
  have HB4 := hide hB4
  have HG4 := hide hg4
  clear hown4 hgrow4 hnil4 hat4 hB4 hnews2 hg4 c1
  go_upto_region 8 with (at_builtin; refine wpList_append_own_at _ rfl _ _ 34 rfl w3.heap.size 9 i0 (.string ⟨#[]⟩) 1 16 Try.underlying34 hi hz0 hz1 hz2 rfl (by decide) (.slice (some ⟨g4, 0, none⟩) n cap4) n (L.map tvl) rfl HOWN4.out ⟨g2, 0, none⟩ m m (M.map tvl) rfl (by simp [HM.out]) HNW2.out (by intro u hu; obtain ⟨x, _, rfl⟩ := List.mem_map.1 hu; rfl) (by simp only [maxLen]; have := HNB.out; omega) (by have := HNB.out; omega) (HB4.out.size) ?_; intro v5 w5 hown5 hgrow5 hnil5 hat5)
  have hB5 : Below w3.heap.size w3 w5 := HB4.out.grown hgrow5 HB4.out.size (fun k e => by cases e; exact HG4.out)
  obtain ⟨g5, cap5, rfl⟩ : ∃ g5 cap5, v5 = .slice (some ⟨g5, 0, none⟩) (n + m) cap5 := by
    rcases hown5.2 with ⟨_, h0⟩ | ⟨g, cap, cur, h1, _⟩
    · have := HNB.out; omega
    · exact ⟨g, cap, h1⟩
  have sl5 := SlS.of_row (base' := w3.heap.size) hown5 (Nat.le_refl _)
  have sl3 := S3.out.below hB5
  rw [← List.map_append] at sl5
  have keq := eqTexts_yes _ _ g3 g5 (n + m) (n + m) cap5 _ (by simp [HN.out, HM.out]) (tvl_string (L ++ M)) w5 sl3 sl5 (by have := HNB.out; omega)
  have KEQ := hide keq
  have HB5 := hide (HBX.out.trans (hB5.mono HBX.out.size))
  clear hown5 hgrow5 hnil5 hat5 sl5 sl3 keq hB5 HOWN4 HNW2
  go_wp2_with (first | (go_at_call 14; refine KEQ.out.mono ?_; rintro e w6 ⟨rfl, hB6⟩) | (go_at_call 16; refine (works_any _).mono ?_; rintro e w9 ⟨rfl, hB9⟩))
  go_ret
  exact ⟨rfl, bseq (bseq HB5.out hB6) hB9⟩
end Go.Proofs.Ytegplcomhahpfaa.linesSeam
