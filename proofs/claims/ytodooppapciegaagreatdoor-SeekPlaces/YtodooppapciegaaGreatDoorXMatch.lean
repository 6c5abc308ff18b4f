/- Package seek: Match. -/
import Derived.Test.YtodooppapciegaaGreatDoorXRunH
import Derived.Test.YtodooppapciegaaGreatDoorXRunI
namespace Go.Proofs.YtodooppapciegaaGreatDoor
open Go.RowKit Go.Shelf
set_option linter.unusedVariables false
set_option linter.unusedSimpArgs false

theorem PatL.low {D : Nat → Prop} {its : List Kd} {txt : ByteArray} {w : World} {pb : Nat} (h : PatL D its txt w pb) : pb < w.heap.size := by
  obtain ⟨iv, h1, _⟩ := h
  exact (Array.getElem?_eq_some_iff.1 h1).1
/-- What Match tells. -/
def matchV (its : List Kd) (l : List UInt8) (p : Int) : Int × Bool :=
  if beginsV l p then (((searchF false its l p.toNat p (run0 its.length)).bt : Int), (searchF false its l p.toNat p (run0 its.length)).fo) else (0, false)
set_option maxRecDepth 100000 in
set_option maxHeartbeats 2000000 in
theorem match_any (D : Nat → Prop) (its : List Kd) (txt s : ByteArray) (w : World) (pb : Nat) (h : PatL D its txt w pb) (hl : its.length ≤ 65536) (hs : s.size ≤ 140737488355328) (p : Int) (hp : -9223372036854775808 ≤ p ∧ p < 9223372036854775808) :
    Calls Tryz.prog 9 #[.pointer (some ⟨pb, 0, none⟩), .string s, .int .i64 p] w fun e w' => e = .returned (.tuple #[.int .i64 (matchV its (bl s) p).1, .bool (matchV its (bl s) p).2]) ∧ Below w.heap.size w w' := by
  have kn := none_made pb true w h.made
  have kb := fun W => begins_any s p W (by omega)
  have HP := hide h
  have KN := hide kn
  unfold matchV
  cases hb : beginsV (bl s) p with
  | false =>
    rw [hb] at kb
    have KB := hide kb
    clear kb kn h
    simp only [Bool.false_eq_true, if_false]
    go_enter Tryz.func9, Tryz.ntmps9
    go_wp2_with (first | (go_at_call 16; refine (KN.out).mono ?_; rintro e x ⟨rfl, rfl⟩) | (go_at_call 19; refine (KB.out _).mono ?_; rintro e x ⟨rfl, hx⟩; have HX := hide hx; clear hx))
    go_ret2
    exact ⟨rfl, HX.out⟩
  | true =>
    rw [hb] at kb
    have KB := hide kb
    have hpp : 0 ≤ p ∧ p ≤ (s.size : Int) := by
      unfold beginsV at hb
      rw [bl_len] at hb
      simp at hb
      omega
    obtain ⟨q, rfl⟩ := Int.eq_ofNat_of_zero_le hpp.1
    have hq : q ≤ s.size := by omega
    have hov := fun W (hw : PatL D its txt W pb) => over_any D its txt s W pb hw hl
    have hse := fun B W b (hr : RunL B D s false its W b (run0 its.length)) => search_any B D s false its W b (run0 its.length) hr hl (by simp [run0]) hs (by show 0 + s.size + 1 < _; omega) q hq (q : Int) (by omega)
    simp only [if_true, Int.toNat_natCast]
    obtain ⟨τ, hτ⟩ : ∃ τ, τ = searchF false its (bl s) q (q : Int) (run0 its.length) := ⟨_, rfl⟩
    rw [← hτ] at hse ⊢
    have HOV := hide hov
    have HSE := hide hse
    clear kb kn h hov hse hτ hb hpp
    go_enter Tryz.func9, Tryz.ntmps9
    go_wp2_with (first
      | (go_at_call 16; refine (KN.out).mono ?_; rintro e x ⟨rfl, rfl⟩)
      | (go_at_call 19; refine (KB.out _).mono ?_; rintro e x1 ⟨rfl, hx⟩; have HX := hide hx; have HP1 := hide (HP.out.below hx); clear hx)
      | (go_at_call 20; refine (HOV.out _ HP1.out).mono ?_; rintro e x2 ⟨b, rfl, hr, hx⟩; have HX2 := hide (bseq HX.out hx); have HR := hide hr; have HB2 := hide (hx.size); clear hx hr)
      | (go_at_call 21; refine (HSE.out _ _ _ HR.out).mono ?_; rintro e x3 ⟨rfl, hr, hx⟩; have HX3 := hide (HX2.out.trans (hx.1.mono (Nat.le_trans HX.out.size (Nat.le_refl _)))); clear hx hr))
    go_ret2
    exact ⟨rfl, HX3.out.alloc HX3.out.size _⟩
end Go.Proofs.YtodooppapciegaaGreatDoor
