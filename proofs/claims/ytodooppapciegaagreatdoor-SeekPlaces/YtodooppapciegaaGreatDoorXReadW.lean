/- Package seek: the statements' own pattern is read. -/
import Derived.Test.YtodooppapciegaaGreatDoorXSetW
import Derived.Test.YtodooppapciegaaGreatDoorTShelf
import Derived.Test.YtodooppapciegaaGreatDoorXRunA
namespace Go.Proofs.YtodooppapciegaaGreatDoor
open Go.RowKit Go.Shelf
set_option linter.unusedVariables false
set_option linter.unusedSimpArgs false

theorem own_grx {X : Nat → Prop} {A C : World} {B n size : Nat} {e : TypeId} {v : Value} {xs : List Value} (h : A.ownsRow B e size v n xs) (hg : GrX X A C) (hx : ∀ g, v.ownBlock = some g → ¬ X g) : C.ownsRow B e size v n xs := by
  refine ⟨h.1, ?_⟩
  rcases h.2 with h0 | ⟨g, cap, cur, rfl, hb, hgg, r⟩
  · exact .inl h0
  · exact .inr ⟨g, cap, cur, rfl, hb, (hg.2.2.2.2 g (Array.getElem?_eq_some_iff.1 hgg).1 (hx g rfl)).trans hgg, r⟩
theorem GrX.new {X Y : Nat → Prop} {A C E : World} (h : GrX X A C) (k : GrX Y C E) (hy : ∀ j, Y j → X j ∨ A.heap.size ≤ j) : GrX X A E :=
  ⟨k.1.trans h.1, k.2.1.trans h.2.1, k.2.2.1.trans h.2.2.1, Nat.le_trans h.2.2.2.1 k.2.2.2.1, fun j hj hx => (k.2.2.2.2 j (Nat.lt_of_lt_of_le hj h.2.2.2.1) (fun hyj => (hy j hyj).elim hx (fun h2 => absurd hj (Nat.not_lt.2 h2)))).trans (h.2.2.2.2 j hj hx)⟩
theorem GrX.sub {X Y : Nat → Prop} {A C : World} (h : GrX X A C) (hs : ∀ j, X j → Y j) : GrX Y A C := ⟨h.1, h.2.1, h.2.2.1, h.2.2.2.1, fun k hk hy => h.2.2.2.2 k hk fun hx => hy (hs k hx)⟩
theorem xw_0_94 : xAt sW 0 94 = false := by decide +kernel
theorem xw_0_36 : xAt sW 0 36 = false := by decide +kernel
theorem xw_0_42 : xAt sW 0 42 = false := by decide +kernel
theorem xw_0_43 : xAt sW 0 43 = false := by decide +kernel
theorem xw_0_63 : xAt sW 0 63 = false := by decide +kernel
theorem xw_0_46 : xAt sW 0 46 = false := by decide +kernel
theorem xw_0_91 : xAt sW 0 91 = true := by decide +kernel
theorem xw_5_42 : xAt sW 5 42 = false := by decide +kernel
theorem xw_5_43 : xAt sW 5 43 = true := by decide +kernel
theorem xw_6_94 : xAt sW 6 94 = false := by decide +kernel
theorem xw_6_36 : xAt sW 6 36 = false := by decide +kernel
theorem xw_6_42 : xAt sW 6 42 = false := by decide +kernel
theorem xw_6_43 : xAt sW 6 43 = false := by decide +kernel
theorem xw_6_63 : xAt sW 6 63 = false := by decide +kernel
theorem xw_6_46 : xAt sW 6 46 = false := by decide +kernel
theorem xw_6_91 : xAt sW 6 91 = false := by decide +kernel
theorem xw_6_92 : xAt sW 6 92 = true := by decide +kernel
theorem xw_8_42 : xAt sW 8 42 = false := by decide +kernel
theorem xw_8_43 : xAt sW 8 43 = false := by decide +kernel
theorem xw_8_63 : xAt sW 8 63 = false := by decide +kernel
theorem xw_mark : ∀ k ∈ [119, 87, 115, 83, 110, 114, 116, 120, 117], xAt sW (6 + 1) k = false := by decide +kernel
theorem xw_by : by' (bl sW) (6 + 1) = 46 ∧ mkB 46 = true := by decide +kernel
set_option maxRecDepth 100000 in
set_option maxHeartbeats 8000000 in
theorem xread_works (b : Nat) (w : World) (h : Rx w b sW 0 false (.slice none 0 0)) :
    Calls Tryz.prog 13 #[.pointer (some ⟨b, 0, none⟩)] w fun e w' => e = .returned (.bool true) ∧ ∃ v, Rx w' b sW 8 false v ∧ ItemsV (fun k => w.heap.size ≤ k ∧ k < w'.heap.size) w' v [(2, setP false false [btwP 97 99]), (4, setP false false [btwP 97 99]), (2, oneP false (46, true))] ∧ GrX (fun j => j = b) w w' := by
  obtain ⟨v, hv⟩ : ∃ v, v = Value.slice none 0 0 := ⟨_, rfl⟩
  rw [← hv] at h
  have HV := hide hv
  have hlt := h.lt
  have hB : Below w.heap.size w (w.alloc (.cells #[.int .i32 0, .bool false] 71)) := (Below.refl _ w).alloc (Nat.le_refl _) _
  have h4 := heap_alloc_new w (.cells #[.int .i32 0, .bool false] 71)
  have hsz : (w.alloc (.cells #[.int .i32 0, .bool false] 71)).heap.size = w.heap.size + 1 := by simp
  have HR := hide (h.below hB)
  have HG := hide (GrX.of_below (X := fun j => j = b) (Below.refl _ (w.alloc (.cells #[.int .i32 0, .bool false] 71))))
  have HB := hide hB
  have c0 := HR.out.text
  have H4 := hide h4
  have HLT := hide hlt
  clear h hB h4 hlt hv
  go_enter Tryz.func13, Tryz.ntmps13
  go_wp2_with (fail)
  refine wp_scope_n 8 ?_
  go_upto_region 4 with (fail)
  generalize w.alloc (.cells #[.int .i32 0, .bool false] 71) = X at *
  have hpf : Lib.hasPrefix sW.data.toList (⟨#[92, 105]⟩ : ByteArray).data.toList = false := by decide +kernel
  go_wp2_with (go_at_call 23; refine (hasPrefix_any _ _ _).mono ?_; rintro e x ⟨rfl, hx⟩; obtain rfl : X = x := hx.symm; clear hx; rw [hpf])
  refine wp_label ?_
  clear c0 hpf
  go_wp2_with (first
    | (go_at_call 24; refine Calls.mono (xdone_any b sW 0 false v _ (by exact HR.out) (by rw [sW_size]; decide)) ?_; rintro e x ⟨rfl, n1, rfl⟩; replace HG := hide (show GrX (fun j => j = b) X (World.drewN _ n1) from (by exact HG.out)); replace HR := hide (show Rx (World.drewN _ n1) b sW 0 false v from (by exact HR.out)); simp only [sW_size, show decide (0 = 8) = false from rfl, show decide (6 = 8) = false from rfl, show decide (8 = 8) = true from rfl])
    | (go_at_call 25; refine Calls.mono (xtakes_any b sW 0 _ false v _ (by exact HR.out) (by rw [sW_size]; decide) (by rw [sW_size]; decide)) ?_; rintro e x ⟨rfl, hRn, hgn⟩; replace HG := hide (GrX.trans (a := X) (by exact HG.out) (GrX.of_grown (X := (fun j => j = b)) hgn (fun j hj => .inl (by cases hj; rfl)))); replace HR := hide hRn; clear hRn hgn; simp only [xw_0_94, xw_0_36, xw_0_42, xw_0_43, xw_0_63, xw_0_46, xw_0_91, xw_5_42, xw_5_43, xw_6_94, xw_6_36, xw_6_42, xw_6_43, xw_6_63, xw_6_46, xw_6_91, xw_6_92, xw_8_42, xw_8_43, xw_8_63, Bool.false_eq_true, if_false, if_true, Nat.reduceAdd] at HR ⊢)
    | (go_at_call 27; refine Calls.mono (xsees_any b sW 0 _ false v _ (by exact HR.out) (by rw [sW_size]; decide) (by rw [sW_size]; decide)) ?_; rintro e x ⟨rfl, n1, rfl⟩; replace HG := hide (show GrX (fun j => j = b) X (World.drewN _ n1) from (by exact HG.out)); replace HR := hide (show Rx (World.drewN _ n1) b sW 0 false v from (by exact HR.out)); simp only [xw_0_94, xw_0_36, xw_0_42, xw_0_43, xw_0_63, xw_0_46, xw_0_91, xw_5_42, xw_5_43, xw_6_94, xw_6_36, xw_6_42, xw_6_43, xw_6_63, xw_6_46, xw_6_91, xw_6_92, xw_8_42, xw_8_43, xw_8_63]))
  (try go_step3)
  first | refine goto_then rfl ?_ | refine goto_plain rfl ?_ | refine goto_block rfl ?_
  go_upto_region 26 with (go_at_call 31; refine Calls.mono (xset_works b v _ (by exact HR.out)) ?_; rintro e x1 ⟨u, rfl, hRn, hpv, hgn⟩; have HS0 := hide (HG.out.2.2.2.1); have HS1 := hide (hgn.2.2.2.1); replace HG := hide (GrX.trans (a := X) (by exact HG.out) hgn); have PV1 := hide hpv; replace HR := hide hRn; obtain ⟨_, fu, lbu, rfl, _, _⟩ := hpv; clear hRn hgn)
  have HW1 : Hid (w.heap.size + 1 ≤ x1.heap.size) := by
    show _ ≤ _
    have a1 := HS0.out
    have a2 := HS1.out
    rw [hsz] at a1
    exact Nat.le_trans a1 a2
  have Q4 := hide ((HG.out.2.2.2.2 w.heap.size (by rw [hsz]; omega) (fun e => by have := HLT.out; omega)).trans H4.out)
  have HGX := hide ((GrX.of_below (X := fun j => j = b) HB.out).trans HG.out)
  replace HG := hide (GrX.of_below (X := fun j => j = b ∨ x1.heap.size ≤ j) (Below.refl _ x1))
  have HO : Hid (x1.ownsRow 0 101 2 v 0 []) := by rw [HV.out]; exact World.ownsRow_nil _ _ _ _
  have HOB : Hid (∀ g, v.ownBlock = some g → x1.heap.size ≤ g) := fun g hg => by rw [HV.out] at hg; simp [Value.ownBlock] at hg
  clear H4 HB
  go_wp2_with (fail)
  refine wp_label ?_
  go_wp2_with (first
    | (go_at_call 25; refine Calls.mono (xtakes_any b sW 5 _ false v _ (by exact HR.out) (by rw [sW_size]; decide) (by rw [sW_size]; decide)) ?_; rintro e x ⟨rfl, hRn, hgn⟩; replace HG := hide (GrX.trans (a := x1) (by exact HG.out) (GrX.of_grown (X := (fun j => j = b ∨ x1.heap.size ≤ j)) hgn (fun j hj => .inl (.inl (by cases hj; rfl))))); replace HO := hide (HO.out.kept hgn (.inr (fun e => by have h1 := HOB.out b e; have h2 := HLT.out; have h3 := HW1.out; omega))); replace HR := hide hRn; clear hRn hgn; simp only [xw_0_94, xw_0_36, xw_0_42, xw_0_43, xw_0_63, xw_0_46, xw_0_91, xw_5_42, xw_5_43, xw_6_94, xw_6_36, xw_6_42, xw_6_43, xw_6_63, xw_6_46, xw_6_91, xw_6_92, xw_8_42, xw_8_43, xw_8_63, Bool.false_eq_true, if_false, if_true, Nat.reduceAdd] at HR ⊢)
    | (go_at_call 26; refine Calls.mono (xput_any b sW _ false _ _ _ _ _ _ HR.out (.inr ⟨_, _, rfl⟩) (HO.out.kept (grownX_drewN _ 0 none) (by cases h : Value.ownBlock _ <;> simp)) (fun e => by have h1 := HOB.out b e; have h2 := HLT.out; have h3 := HW1.out; omega) (by decide)) ?_; rintro e x ⟨rfl, vn, hRn, ho, hat, hgn⟩; have hob2 : ∀ g, vn.ownBlock = some g → x1.heap.size ≤ g := fun g hg => hat.elim (fun h => HOB.out g (h.symm.trans hg)) (fun ⟨g2, q1, q2⟩ => by have h3 : g2 = g := (by simpa using q1.symm.trans hg); have h4 := HG.out.2.2.2.1; omega); replace HG := hide (GrX.trans (a := x1) (by exact HG.out) (GrX.sub (Y := fun j => j = b ∨ x1.heap.size ≤ j) hgn (fun j hj => hj.elim Or.inl (fun h => Or.inr (HOB.out j h.symm))))); replace HR := hide hRn; replace HO := hide ho; replace HOB := hide hob2; clear hRn ho hat hgn hob2))
  obtain ⟨y0, hy0⟩ : ∃ y, y = x := ⟨_, rfl⟩
  have G3 := hide HG.out
  have HQ0 := hide ((HG.out.2.2.2.2 w.heap.size (by have := HW1.out; omega) (fun h => by have h1 := HW1.out; have h2 := HLT.out; omega)).trans Q4.out)
  have HOY := hide HO.out
  rw [← hy0] at HR HG G3 HQ0 HOY ⊢
  clear HO hy0 Q4
  replace HG := hide (GrX.of_below (X := fun j => j = b) (Below.refl _ y0))
  go_step3
  first | refine goto_then rfl ?_ | refine goto_plain rfl ?_ | refine goto_block rfl ?_
  go_upto_region 21 with (first
    | (go_at_call 24; refine Calls.mono (xdone_any b sW 6 false vn _ (by exact HR.out) (by rw [sW_size]; decide)) ?_; rintro e x ⟨rfl, n1, rfl⟩; replace HG := hide (show GrX (fun j => j = b) y0 (World.drewN _ n1) from (by exact HG.out)); replace HR := hide (show Rx (World.drewN _ n1) b sW 6 false vn from (by exact HR.out)); simp only [sW_size, show decide (0 = 8) = false from rfl, show decide (6 = 8) = false from rfl, show decide (8 = 8) = true from rfl])
    | (go_at_call 25; refine Calls.mono (xtakes_any b sW 6 _ false vn _ (by exact HR.out) (by rw [sW_size]; decide) (by rw [sW_size]; decide)) ?_; rintro e x ⟨rfl, hRn, hgn⟩; replace HG := hide (GrX.trans (a := y0) (by exact HG.out) (GrX.of_grown (X := (fun j => j = b)) hgn (fun j hj => .inl (by cases hj; rfl)))); replace HR := hide hRn; clear hRn hgn; simp only [xw_0_94, xw_0_36, xw_0_42, xw_0_43, xw_0_63, xw_0_46, xw_0_91, xw_5_42, xw_5_43, xw_6_94, xw_6_36, xw_6_42, xw_6_43, xw_6_63, xw_6_46, xw_6_91, xw_6_92, xw_8_42, xw_8_43, xw_8_63, Bool.false_eq_true, if_false, if_true, Nat.reduceAdd] at HR ⊢)
    | (go_at_call 27; refine Calls.mono (xsees_any b sW 6 _ false vn _ (by exact HR.out) (by rw [sW_size]; decide) (by rw [sW_size]; decide)) ?_; rintro e x ⟨rfl, n1, rfl⟩; replace HG := hide (show GrX (fun j => j = b) y0 (World.drewN _ n1) from (by exact HG.out)); replace HR := hide (show Rx (World.drewN _ n1) b sW 6 false vn from (by exact HR.out)); simp only [xw_0_94, xw_0_36, xw_0_42, xw_0_43, xw_0_63, xw_0_46, xw_0_91, xw_5_42, xw_5_43, xw_6_94, xw_6_36, xw_6_42, xw_6_43, xw_6_63, xw_6_46, xw_6_91, xw_6_92, xw_8_42, xw_8_43, xw_8_63])
    | (go_at_call 29; refine Calls.mono (xwritten_mark b sW 6 46 false vn _ (by exact HR.out) (by rw [sW_size]; decide) (by rw [sW_size]; decide) xw_6_92 xw_by.1 xw_by.2 (by decide) xw_mark) ?_; rintro e x3 ⟨rfl, hRn, hgn⟩; replace HG := hide (GrX.trans (a := y0) (by exact HG.out) hgn); replace HR := hide hRn; have Q5 := hide ((HG.out.2.2.2.2 w.heap.size (Array.getElem?_eq_some_iff.1 HQ0.out).1 (fun e => by have := HLT.out; omega)).trans HQ0.out); obtain ⟨a40, a41, a4f⟩ := chr_facts (b := b) Q5.out; clear hRn hgn))
  obtain ⟨Y3, hY3⟩ : ∃ Y, Y = (x3.setCell ⟨w.heap.size, 0, none⟩ (.int .i32 46)).setCell ⟨w.heap.size, 1, none⟩ (.bool true) := ⟨_, rfl⟩
  have hneb : b ≠ w.heap.size := fun e => by have := HLT.out; omega
  have yq : Y3.heap[w.heap.size]? = some (.cells #[.int .i32 46, .bool true] 71 (0, 0)) := by
    rw [hY3]
    exact heap_setCell_same _ _ 1 _ _ _ (heap_setCell_same x3 _ 0 _ _ _ Q5.out)
  have yr : Rx Y3 b sW 8 false vn := by
    rw [hY3]
    exact wrt_rx HR.out hneb
  have yg : GrX (fun j => j = b ∨ j = w.heap.size) x3 Y3 := by
    rw [hY3]
    exact (GrX.of_grown (grownX_set x3 _ 0 _) (fun j hj => .inl (.inr (by cases hj; rfl)))).trans (GrX.of_grown (grownX_set _ _ 1 _) (fun j hj => .inl (.inr (by cases hj; rfl))))
  have yg0 : GrX (fun j => j = b ∨ j = w.heap.size) y0 Y3 := (HG.out.sub (fun j hj => .inl hj)).trans yg
  have yg1 : GrX (fun j => j = b ∨ j = w.heap.size ∨ x1.heap.size ≤ j) x1 Y3 := (G3.out.sub (fun j hj => hj.elim Or.inl (fun h => Or.inr (Or.inr h)))).trans (yg0.sub (fun j hj => hj.elim Or.inl (fun h => Or.inr (Or.inl h))))
  have yw : GrX (fun j => j = b) w Y3 := HGX.out.new yg1 (fun j hj => hj.elim Or.inl (fun h => Or.inr (by have := HW1.out; omega)))
  have yo : Y3.ownsRow 0 101 2 vn 2 [.int .i64 2, .func (.func fu) #[] lbu, .int .i64 4, .func (.func fu) #[] lbu] := own_grx HOY.out yg0 (fun g hg h => by
    have h1 := HOB.out g hg
    have h2 := HW1.out
    have h3 := HLT.out
    omega)
  have yp := hide (PV1.out.keep (yg1.keepD (fun k hk => ⟨hk.2, fun h => by
    have h1 := HS0.out
    have h2 := HLT.out
    have h3 := hk.1
    have h4 := hk.2
    rw [hsz] at h1
    omega⟩)))
  rw [← hY3]
  replace HR := hide yr
  have HYW := hide yw
  have HO := hide yo
  have hys : x1.heap.size ≤ Y3.heap.size := yg1.2.2.2.1
  have HYS := hide hys
  obtain ⟨a50, a51, a5f⟩ := chr_facts (b := b) yq
  have pn := fun W => part_nil W
  have HOLT : Hid (∀ g, vn.ownBlock = some g → g < Y3.heap.size) := fun g hg => (own_low yo hg).2
  clear hY3 yq yr yg yg0 yg1 yw yo hys Q5 HQ0 HG G3 HOY HGX a40 a41 a4f PV1
  go_wp2_with (go_at_call 30; refine Calls.mono (xone_any b sW 8 false vn (46, true) _ (by exact HR.out)) ?_; rintro e z ⟨u2, rfl, ⟨E2, hE2, hp2⟩, hb2⟩; have HP2 := hide hp2; have HE2 := hide hE2; have HBZ := hide hb2; obtain ⟨_, f2, lb2, rfl, _, _⟩ := hp2; clear hb2 hE2)
  go_step3
  first | refine goto_then rfl ?_ | refine goto_plain rfl ?_ | refine goto_block rfl ?_
  replace HR := hide (HR.out.below HBZ.out)
  have HOZ := hide (own_bel HO.out HBZ.out)
  have YPZ := hide (yp.out.below HBZ.out)
  have HZW := hide (HYW.out.trans (GrX.of_below (X := fun j => j = b) HBZ.out))
  have HG := hide (GrX.of_below (X := fun j => j = b) (Below.refl _ z))
  clear HO yp pn a50 a51 a5f HYW
  go_wp2_with (first
    | (go_at_call 25; refine Calls.mono (xtakes_any b sW 8 _ false vn _ (by exact HR.out) (by rw [sW_size]; decide) (by rw [sW_size]; decide)) ?_; rintro e x ⟨rfl, hRn, hgn⟩; replace HG := hide (GrX.trans (a := z) (by exact HG.out) (GrX.of_grown (X := (fun j => j = b)) hgn (fun j hj => .inl (by cases hj; rfl)))); replace HR := hide hRn; clear hRn hgn; simp only [xw_0_94, xw_0_36, xw_0_42, xw_0_43, xw_0_63, xw_0_46, xw_0_91, xw_5_42, xw_5_43, xw_6_94, xw_6_36, xw_6_42, xw_6_43, xw_6_63, xw_6_46, xw_6_91, xw_6_92, xw_8_42, xw_8_43, xw_8_63, Bool.false_eq_true, if_false, if_true, Nat.reduceAdd] at HR ⊢)
    | (go_at_call 26; refine Calls.mono (xput_any b sW 8 false vn (.func (.func f2) #[] lb2) 2 2 _ _ (by exact HR.out) (.inr ⟨_, _, rfl⟩) (own_grx HOZ.out HG.out (fun g hg h => by have h1 := HOB.out g hg; have h2 := HW1.out; have h3 := HLT.out; omega)) (fun e => by have h1 := HOB.out b e; have h2 := HLT.out; have h3 := HW1.out; omega) (by decide)) ?_; rintro e xf ⟨rfl, vf, hRn, ho, hat, hgn⟩; have HRF := hide hRn; have HOF := hide ho; have HAT := hide hat; have HGF := hide hgn; have HGZ := hide HG.out; clear hRn ho hat hgn))
  replace HR := hide HRF.out
  clear HRF HG
  have HG := hide (GrX.of_below (X := fun j => j = b) (Below.refl _ xf))
  go_step3
  first | refine goto_then rfl ?_ | refine goto_plain rfl ?_ | refine goto_block rfl ?_
  go_wp2_with (first
    | (go_at_call 24; refine Calls.mono (xdone_any b sW 8 false vf _ (by exact HR.out) (by rw [sW_size]; decide)) ?_; rintro e x ⟨rfl, n1, rfl⟩; replace HG := hide (show GrX (fun j => j = b) xf (World.drewN _ n1) from (by exact HG.out)); replace HR := hide (show Rx (World.drewN _ n1) b sW 8 false vf from (by exact HR.out)); simp only [sW_size, show decide (0 = 8) = false from rfl, show decide (6 = 8) = false from rfl, show decide (8 = 8) = true from rfl]))
  rw [jumpA_ret]
  go_ret
  refine ⟨rfl, vf, by exact HR.out, ?_, ?_⟩
  · have hk : ∀ k, (w.heap.size ≤ k ∧ k < z.heap.size ∧ (∀ g, vn.ownBlock = some g → k ≠ g)) → xf.heap[k]? = z.heap[k]? := fun k hk => by
      have h1 := HGZ.out.2.2.2.2 k hk.2.1 (fun e => by have h2 := HLT.out; have h3 := hk.1; omega)
      have h4 := HGF.out.2.2.2.2 k (Nat.lt_of_lt_of_le hk.2.1 HGZ.out.2.2.2.1) (fun e => e.elim (fun h => by have h2 := HLT.out; have h3 := hk.1; omega) (fun h => hk.2.2 k h.symm rfl))
      exact h4.trans h1
    have hzf : z.heap.size ≤ xf.heap.size := Nat.le_trans HGZ.out.2.2.2.1 HGF.out.2.2.2.1
    have hyz : Y3.heap.size ≤ z.heap.size := HBZ.out.size
    have hx1 := HW1.out
    have hxy := HYS.out
    have p1 : PartV (fun k => w.heap.size ≤ k ∧ k < xf.heap.size) xf (.func (.func fu) #[] lbu) (setP false false [btwP 97 99]) := by
      refine (YPZ.out.keep ⟨hzf, fun k hd => hk k ⟨?_, ?_, fun g hg e => ?_⟩⟩).wider (fun k hd => ⟨?_, ?_⟩) (fun k hd => hd.2)
      · have h1 := HS0.out; rw [hsz] at h1; have h2 := hd.1; omega
      · have h2 := hd.2; omega
      · have h1 := HOB.out g hg; have h2 := hd.2; omega
      · have h1 := HS0.out; rw [hsz] at h1; have h2 := hd.1; omega
      · have h2 := hd.2; omega
    have p2 : PartV (fun k => w.heap.size ≤ k ∧ k < xf.heap.size) xf (.func (.func f2) #[] lb2) (oneP false (46, true)) := by
      have hE : ∀ k, E2 k → Y3.heap.size ≤ k ∧ k < z.heap.size := fun k hd => ⟨(HE2.out k hd).elim (fun h => h.elim) id, HP2.out.1 k hd⟩
      refine (HP2.out.keep ⟨hzf, fun k hd => hk k ⟨?_, (hE k hd).2, fun g hg e => ?_⟩⟩).wider (fun k hd => ⟨?_, ?_⟩) (fun k hd => hd.2)
      · have h1 := (hE k hd).1; omega
      · have h1 := HOLT.out g hg; have h2 := (hE k hd).1; omega
      · have h1 := (hE k hd).1; omega
      · have h1 := (hE k hd).2; omega
    obtain ⟨g, cap, cur, rfl, hg2, hg5⟩ : ∃ g cap cur, vf = .slice (some ⟨g, 0, none⟩) 3 cap ∧ xf.heap[g]? = some (.cells cur 101 (0, 0)) ∧ cur.toList.take 6 = [.int .i64 2, .func (.func fu) #[] lbu, .int .i64 4, .func (.func fu) #[] lbu, .int .i64 2, .func (.func f2) #[] lb2] := by
      rcases HOF.out.2 with ⟨_, h0⟩ | ⟨g, cap, cur, hv, _, hg, _, _, _, hc⟩
      · omega
      · exact ⟨g, cap, cur, hv, hg, by simpa using hc⟩
    have hgl : g < xf.heap.size := (Array.getElem?_eq_some_iff.1 hg2).1
    have hgw : w.heap.size ≤ g := by
      rcases HAT.out with h | ⟨g2, q1, q2⟩
      · have := HOB.out g h.symm; omega
      · have h3 : g2 = g := by simpa [Value.ownBlock] using q1.symm
        have h4 := HGZ.out.2.2.2.1
        omega
    have hcl : ∀ (j : Nat) (u : Value), [Value.int .i64 2, .func (.func fu) #[] lbu, .int .i64 4, .func (.func fu) #[] lbu, .int .i64 2, .func (.func f2) #[] lb2][j]? = some u → xf.cell? ⟨g, j, none⟩ = some u := fun j u hu => by
      rw [← hg5, List.getElem?_take] at hu
      split at hu
      · exact cel2' hg2 j u (by simpa using hu)
      · simp at hu
    have hI : ItemsV (fun k => w.heap.size ≤ k ∧ k < xf.heap.size) xf (.slice (some ⟨g, 0, none⟩) 3 cap) [(2, setP false false [btwP 97 99]), (4, setP false false [btwP 97 99]), (2, oneP false (46, true))] := by
      refine ⟨fun k hd => hd.2, .inr ⟨g, cap, rfl, ⟨hgw, hgl⟩, fun i x hx => ?_⟩⟩
      match i, hx with
      | 0, hx => obtain rfl := Option.some.inj hx; exact ⟨_, hcl 0 _ rfl, hcl 1 _ rfl, fun _ => p1, fun h => by simp at h⟩
      | 1, hx => obtain rfl := Option.some.inj hx; exact ⟨_, hcl 2 _ rfl, hcl 3 _ rfl, fun _ => p1, fun h => by simp at h⟩
      | 2, hx => obtain rfl := Option.some.inj hx; exact ⟨_, hcl 4 _ rfl, hcl 5 _ rfl, fun _ => p2, fun h => by simp at h⟩
      | n + 3, hx => simp at hx
    exact hI.keep ⟨Nat.le_refl _, fun _ _ => rfl⟩
  · have g1 := HZW.out.trans HGZ.out
    have g2 := g1.new HGF.out (fun j hj => hj.elim Or.inl (fun h => Or.inr (by have h1 := HOB.out j h.symm; have h2 := HW1.out; omega)))
    exact g2
end Go.Proofs.YtodooppapciegaaGreatDoor
