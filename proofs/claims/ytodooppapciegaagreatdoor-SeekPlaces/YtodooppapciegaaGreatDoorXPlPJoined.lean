/- SeekPlaces in the stated row: all pieces begin and end at places of the text, rise and do not overlap, Match says so at each, and Find and Last tell the first and the last place at which Match says yes; the handle of the type of errors is laid. -/
import Derived.Test.YtodooppapciegaaGreatDoorXCmpJoined
import Derived.Test.YtodooppapciegaaGreatDoorProg
import Derived.WalkKit
import Derived.LaidEql
import Derived.Stop.Asserts
import Derived.RowKitTokens
import Derived.LaidLaws
import Derived.LaidHandle
import Derived.Below
import Derived.Test.YtodooppapciegaaGreatDoorXRd
import Derived.Test.YtodooppapciegaaGreatDoorURef2Joined
import Derived.Test.YtodooppapciegaaGreatDoorXRow8
import Derived.Test.YtodooppapciegaaGreatDoorXPlMJoined
import Derived.Test.YtodooppapciegaaGreatDoorUFirst
import Derived.ProofKit
import Derived.ChangeOld
import Derived.ChangeMaps5
import Derived.SizedLaws
import Derived.JoinedCond
import Derived.Test.YtodooppapciegaaGreatDoorCards
import Derived.Test.YtodooppapciegaaGreatDoorTie
import Derived.OpenShut
import Derived.Deep.DeepHandedRow
import Derived.Deep.DeepWitnessRowRef
import Derived.LaidMore
namespace Go.Proofs.YtodooppapciegaaGreatDoor
open Go.RowKit Go.Shelf
set_option linter.unusedVariables false
set_option linter.unusedSimpArgs false

theorem el_some {s : ByteArray} {f oth : Bool} {p : Nat} {Ps : List (Ch → Bool)} {o : Option (Ch → Bool)} {r : Nat} (h : El s f oth p Ps o r) : o ≠ none → p < r ∧ r ≤ s.size := by
  induction h with
  | fin p Ps h1 => exact fun _ => ⟨Nat.lt_succ_self _, xAt_lt h1⟩
  | dash => exact fun h => absurd rfl h
  | bad => exact fun h => absurd rfl h
  | kind p Ps P q o r _ _ hc _ ih => exact fun h => ⟨Nat.lt_trans (hc.2.2.1 (by simp)) (ih h).1, (ih h).2⟩
  | one p Ps c q o r _ _ hc _ _ ih => exact fun h => ⟨Nat.lt_trans (hc.2.2.1 (by simp)) (ih h).1, (ih h).2⟩
  | upNo => exact fun h => absurd rfl h
  | upBad => exact fun h => absurd rfl h
  | upKind => exact fun h => absurd rfl h
  | upRev => exact fun h => absurd rfl h
  | upTo p Ps c q d q2 o r _ _ hc _ _ _ hd _ _ _ _ ih => exact fun h => ⟨by have h1 := hc.2.2.1 (by simp); have h2 := hd.2.2.1 (by simp); have h3 := (ih h).1; omega, (ih h).2⟩
theorem el_total {s : ByteArray} (hs : s.size ≤ 65536) (f oth : Bool) : ∀ (k p : Nat) (Ps : List (Ch → Bool)), s.size - p ≤ k → p ≤ s.size → ∃ o r, El s f oth p Ps o r
  | k, p, Ps, hk, hp => by
    cases x93 : xAt s p 93 with
    | true => exact ⟨_, _, .fin p Ps x93⟩
    | false =>
      cases x45 : xAt s p 45 with
      | true => exact ⟨_, _, .dash p Ps x93 x45⟩
      | false =>
        have hw := wr_any hs hp
        obtain ⟨o, q, hoq⟩ : ∃ o q, wrF s p = (o, q) := ⟨_, _, rfl⟩
        rw [hoq] at hw
        simp only at hw
        cases o with
        | bad => exact ⟨_, _, .bad p Ps q x93 x45 hw⟩
        | kind P =>
          have h1 := hw.2.2.1 (by simp)
          have h2 := hw.2.1
          match k, hk with
          | 0, hk => omega
          | k + 1, hk =>
            obtain ⟨o, r, h⟩ := el_total hs f oth k q (Ps ++ [P]) (by omega) h2
            exact ⟨o, r, .kind p Ps P q o r x93 x45 hw h⟩
        | one c =>
          have h1 := hw.2.2.1 (by simp)
          have h2 := hw.2.1
          cases xq : xAt s q 45 with
          | false =>
            match k, hk with
            | 0, hk => omega
            | k + 1, hk =>
              obtain ⟨o, r, h⟩ := el_total hs f oth k q (Ps ++ [fun d => decide (d = c)]) (by omega) h2
              exact ⟨o, r, .one p Ps c q o r x93 x45 hw xq h⟩
          | true =>
            have h3 := xAt_lt xq
            cases y93 : xAt s (q + 1) 93 with
            | true => exact ⟨_, _, .upNo p Ps c q x93 x45 hw xq (.inl y93)⟩
            | false =>
              cases y45 : xAt s (q + 1) 45 with
              | true => exact ⟨_, _, .upNo p Ps c q x93 x45 hw xq (.inr y45)⟩
              | false =>
                have hw2 := wr_any hs (show q + 1 ≤ s.size from h3)
                obtain ⟨o2, q2, hoq2⟩ : ∃ o q2, wrF s (q + 1) = (o, q2) := ⟨_, _, rfl⟩
                rw [hoq2] at hw2
                simp only at hw2
                cases o2 with
                | bad => exact ⟨_, _, .upBad p Ps c q q2 x93 x45 hw xq y93 y45 hw2⟩
                | kind P => exact ⟨_, _, .upKind p Ps c q P q2 x93 x45 hw xq y93 y45 hw2⟩
                | one d =>
                  by_cases hx : c.2 = false ∨ d.2 = false ∨ d.1 < c.1
                  · exact ⟨_, _, .upRev p Ps c q d q2 x93 x45 hw xq y93 y45 hw2 hx⟩
                  · have g1 := hw2.2.2.1 (by simp)
                    have g2 := hw2.2.1
                    have hc2 : c.2 = true := by cases h9 : c.2 with | true => rfl | false => exact absurd (.inl h9) hx
                    have hd2 : d.2 = true := by cases h9 : d.2 with | true => rfl | false => exact absurd (.inr (.inl h9)) hx
                    have hcd : c.1 ≤ d.1 := by
                      rcases Int.lt_or_le d.1 c.1 with g | g
                      · exact absurd (.inr (.inr g)) hx
                      · exact g
                    match k, hk with
                    | 0, hk => omega
                    | k + 1, hk =>
                      obtain ⟨o, r, h⟩ := el_total hs f oth k q2 (Ps ++ [btwP c.1 d.1]) (by omega) g2
                      exact ⟨o, r, .upTo p Ps c q d q2 o r x93 x45 hw xq y93 y45 hw2 hc2 hd2 hcd h⟩
/-- A set as it reads, from behind its bracket on. -/
theorem set_read {s : ByteArray} (hs : s.size ≤ 65536) {f oth : Bool} {p p1 : Nat} (hp : p ≤ s.size) (ho : (xAt s p 94 = true ∧ oth = true ∧ p1 = p + 1) ∨ (xAt s p 94 = false ∧ oth = false ∧ p = p1)) {r : Option (Ch → Bool)} {q : Nat} (hR : (xAt s p1 93 = true ∧ r = none ∧ q = p1) ∨ (xAt s p1 93 = false ∧ El s f oth p1 [] r q)) : SetC s f p r q := by
  have hpp : p ≤ p1 := by rcases ho with ⟨_, _, h⟩ | ⟨_, _, h⟩ <;> omega
  refine ⟨fun hn => ?_, fun b v w hr => ?_⟩
  · rcases hR with ⟨_, h, _⟩ | ⟨_, h⟩
    · exact absurd h hn
    · have := el_some h hn
      omega
  · exact (xset_any b s p f v w hr hp hs oth p1 ho r q hR).mono fun e w' h => h
theorem set_total {s : ByteArray} (hs : s.size ≤ 65536) (f : Bool) {p : Nat} (hp : p ≤ s.size) : ∃ o q, SetC s f p o q := by
  obtain ⟨oth, p1, ho, hp1⟩ : ∃ oth p1, ((xAt s p 94 = true ∧ oth = true ∧ p1 = p + 1) ∨ (xAt s p 94 = false ∧ oth = false ∧ p = p1)) ∧ p1 ≤ s.size := by
    cases x94 : xAt s p 94 with
    | true => exact ⟨true, p + 1, .inl ⟨rfl, rfl, rfl⟩, xAt_lt x94⟩
    | false => exact ⟨false, p, .inr ⟨rfl, rfl, rfl⟩, hp⟩
  cases x93 : xAt s p1 93 with
  | true => exact ⟨none, p1, set_read hs hp ho (.inl ⟨x93, rfl, rfl⟩)⟩
  | false =>
    obtain ⟨o, r, h⟩ := el_total hs f oth _ p1 [] (Nat.le_refl _) hp1
    exact ⟨o, r, set_read hs hp ho (.inr ⟨x93, h⟩)⟩
theorem rd_total {s : ByteArray} (hs : s.size ≤ 65536) (f : Bool) : ∀ (k p : Nat), s.size - p ≤ k → p ≤ s.size → ∃ r q, Rd s f p r q
  | k, p, hk, hp => by
    by_cases hpe : p = s.size
    · subst hpe; exact ⟨_, _, .fin⟩
    have hlt : p < s.size := by omega
    obtain ⟨k, rfl⟩ : ∃ k', k = k' + 1 := ⟨k - 1, by omega⟩
    have next : ∀ q, p < q → q ≤ s.size → ∃ r q', Rd s f (cntN s q) r q' := fun q h1 h2 => by
      have h3 := cntN_le h2
      exact rd_total hs f k (cntN s q) (by omega) h3.2
    cases x94 : xAt s p 94 with
    | true =>
      obtain ⟨r, q, h⟩ := rd_total hs f k (p + 1) (by omega) hlt
      exact ⟨_, _, .beg p r q x94 h⟩
    | false =>
      cases x36 : xAt s p 36 with
      | true =>
        obtain ⟨r, q, h⟩ := rd_total hs f k (p + 1) (by omega) hlt
        exact ⟨_, _, .stop p r q x36 h⟩
      | false =>
        cases x42 : xAt s p 42 with
        | true => exact ⟨_, _, .rep p (.inl x42)⟩
        | false =>
          cases x43 : xAt s p 43 with
          | true => exact ⟨_, _, .rep p (.inr (.inl x43))⟩
          | false =>
            cases x63 : xAt s p 63 with
            | true => exact ⟨_, _, .rep p (.inr (.inr x63))⟩
            | false =>
              cases x46 : xAt s p 46 with
              | true =>
                obtain ⟨r, q, h⟩ := next (p + 1) (by omega) hlt
                exact ⟨_, _, .dot p r q x46 h⟩
              | false =>
                cases x91 : xAt s p 91 with
                | true =>
                  obtain ⟨o, q, hc⟩ := set_total hs f (show p + 1 ≤ s.size from hlt)
                  cases o with
                  | none => exact ⟨_, _, .noset p q x91 hc⟩
                  | some P =>
                    have h1 := hc.1 (by simp)
                    obtain ⟨r, q', h⟩ := next q (by omega) h1.2
                    exact ⟨_, _, .set p q P r q' x91 hc h⟩
                | false =>
                  have hpl : Plain s p := ⟨hlt, x94, x36, x42, x43, x63, x46, x91⟩
                  have hw := wr_any hs hp
                  obtain ⟨o, q, hoq⟩ : ∃ o q, wrF s p = (o, q) := ⟨_, _, rfl⟩
                  rw [hoq] at hw
                  simp only at hw
                  cases o with
                  | bad => exact ⟨_, _, .no p q hpl hw⟩
                  | kind P =>
                    obtain ⟨r, q', h⟩ := next q (hw.2.2.1 (by simp)) hw.2.1
                    exact ⟨_, _, .kind p q P r q' hpl hw h⟩
                  | one c =>
                    obtain ⟨r, q', h⟩ := next q (hw.2.2.1 (by simp)) hw.2.1
                    exact ⟨_, _, .one p q c r q' hpl hw h⟩
theorem fd_total (s : ByteArray) : ∃ f p0, Fd s f p0 ∧ p0 ≤ s.size := by
  unfold Fd
  by_cases h : Lib.hasPrefix s.data.toList (⟨#[92, 105]⟩ : ByteArray).data.toList = true
  · refine ⟨true, 2, ?_⟩
    have h2 : 2 ≤ s.size := by
      have h3 : ([92, 105] : List UInt8).isPrefixOf s.data.toList = true := h
      have h4 := (List.isPrefixOf_iff_prefix.1 h3).length_le
      simpa using h4
    rw [if_pos h]
    exact ⟨⟨rfl, rfl, h2⟩, h2⟩
  · refine ⟨false, 0, ?_⟩
    rw [if_neg h]
    exact ⟨⟨rfl, rfl⟩, Nat.zero_le _⟩
/-- Compile, of every text: a pattern, or a fault. -/
theorem xcompile_anyL (s : ByteArray) (w : World) (hs : s.size ≤ 9223372036854775807) :
    Calls Tryz.prog 4 #[.string s] w fun e w' => Below w.heap.size w w' ∧
      ((∃ k c a, e = .returned (.tuple #[.pointer none, .iface 43 (.pointer (some ⟨k, 0, none⟩))]) ∧ w'.heap[k]? = some (.cells #[.int .i64 c, .int .i64 a] 45 (0, 0)) ∧ c ≠ 0) ∨
       (∃ pb D its, e = .returned (.tuple #[.pointer (some ⟨pb, 0, none⟩), .nilIface]) ∧ PatL D its s w' pb ∧ its.length ≤ 512 ∧ ∀ k, D k → w.heap.size ≤ k)) := by
  by_cases hl : s.size ≤ 256
  · obtain ⟨f, p0, hf, hp0⟩ := fd_total s
    obtain ⟨r, q, hR⟩ := rd_total (by omega) f _ p0 (Nat.le_refl _) hp0
    cases r with
    | none => exact (xcompile_no s w hl f p0 hf q hR).mono fun e w' ⟨k, h1, h2, h3⟩ => ⟨h3, .inl ⟨k, 60, q, h1, h2, by decide⟩⟩
    | some its => exact (xcompile_yesL s w hl f p0 hf its q hR).mono fun e w' ⟨pb, D, h1, h2, h3, h4, h5⟩ => ⟨h4, .inr ⟨pb, D, its, h1, h2, h3, h5⟩⟩
  · exact (xcompile_long s w (by omega) hs).mono fun e w' ⟨k, h1, h2, h3⟩ => ⟨h3, .inl ⟨k, 4, 0, h1, h2, by decide⟩⟩
theorem xcompile_any (s : ByteArray) (w : World) (hs : s.size ≤ 9223372036854775807) :
    Calls Tryz.prog 4 #[.string s] w fun e w' => Below w.heap.size w w' ∧
      ((∃ k c a, e = .returned (.tuple #[.pointer none, .iface 43 (.pointer (some ⟨k, 0, none⟩))]) ∧ w'.heap[k]? = some (.cells #[.int .i64 c, .int .i64 a] 45 (0, 0)) ∧ c ≠ 0) ∨
       (∃ pb D its, e = .returned (.tuple #[.pointer (some ⟨pb, 0, none⟩), .nilIface]) ∧ PatL D its s w' pb ∧ its.length ≤ 512)) :=
  (xcompile_anyL s w hs).mono fun e w' ⟨h1, h2⟩ => ⟨h1, h2.imp id fun ⟨pb, D, its, q1, q2, q3, _⟩ => ⟨pb, D, its, q1, q2, q3⟩⟩
end Go.Proofs.YtodooppapciegaaGreatDoor
namespace Go.Proofs.YtodooppapciegaaGreatDoor
open Go.RowKit Go.Extern.Stop Go.Stop Go.Extern
set_option linter.unusedVariables false

theorem As.valueOfPP (t : Addr) (w : World) : (ReflectliteValue.unpack (.iface 53 (.pointer (some t)))).run Tryz.prog w
    = .ok (.agg #[.pointer (some ⟨1, 53, none⟩), .pointer (some ⟨w.heap.size, 0, none⟩), .int .u64 150]) (w.alloc (.cells #[.pointer (some t)] 53)) := by kernel_rfl
theorem As.typePP (a : Addr) (w : World) : (ReflectliteValue.methodAny (ReflectliteValue.valueError "reflectlite.Value.Type" 0) (fun t _ _ _ => ReflectliteType.toType t) #[.agg #[.pointer (some ⟨1, 53, none⟩), .pointer (some a), .int .u64 150]]).run Tryz.prog w
    = .ok (.iface 108 (.agg #[.pointer (some ⟨1, 53, none⟩)])) w := by kernel_rfl
theorem As.mKind (h : Value) (w : World) : (Go.method 264 108 (.agg #[h]) "Kind").run Tryz.prog w = .ok (99, h) w := by kernel_rfl
theorem As.mElem (h : Value) (w : World) : (Go.method 264 108 (.agg #[h]) "Elem").run Tryz.prog w = .ok (112, .agg #[h]) w := by kernel_rfl
theorem As.mImpl (h : Value) (w : World) : (Go.method 264 108 (.agg #[h]) "Implements").run Tryz.prog w = .ok (113, .agg #[h]) w := by kernel_rfl
theorem As.mAsgn (h : Value) (w : World) : (Go.method 264 108 (.agg #[h]) "AssignableTo").run Tryz.prog w = .ok (110, .agg #[h]) w := by kernel_rfl
theorem As.kindPP (w : World) : ((ReflectliteType.abiMethod fun t => (fun a : Nat => Value.int IntKind.u8 (a : Int)) <$> Rtype.kind t) #[.pointer (some ⟨1, 53, none⟩)]).run Tryz.prog w = .ok (.int .u8 22) w := by kernel_rfl
theorem As.kindP (w : World) : ((ReflectliteType.abiMethod fun t => (fun a : Nat => Value.int IntKind.u8 (a : Int)) <$> Rtype.kind t) #[.pointer (some ⟨1, 43, none⟩)]).run Tryz.prog w = .ok (.int .u8 22) w := by kernel_rfl
theorem As.elemPP (w : World) : (ReflectliteType.method ReflectliteType.elem #[.agg #[.pointer (some ⟨1, 53, none⟩)]]).run Tryz.prog w = .ok (.iface 108 (.agg #[.pointer (some ⟨1, 43, none⟩)])) w := by kernel_rfl
theorem As.implP (w : World) : (ReflectliteType.relation "Implements" ReflectliteType.implements_ #[.agg #[.pointer (some ⟨1, 43, none⟩)], .iface 108 (.agg #[.pointer (some ⟨1, 24, none⟩)])]).run Tryz.prog w = .ok (.bool true) w := by kernel_rfl
theorem As.typeOfP (v : Value) (w : World) : (ReflectliteType.typeOf #[.iface 43 v]).run Tryz.prog w = .ok (.iface 108 (.agg #[.pointer (some ⟨1, 43, none⟩)])) w := by kernel_rfl
theorem As.asgnP (w : World) : (ReflectliteType.relation "AssignableTo" ReflectliteType.assignableTo #[.agg #[.pointer (some ⟨1, 43, none⟩)], .iface 108 (.agg #[.pointer (some ⟨1, 43, none⟩)])]).run Tryz.prog w = .ok (.bool true) w := by kernel_rfl
theorem As.valueOfP (e : Addr) (w : World) : (ReflectliteValue.unpack (.iface 43 (.pointer (some e)))).run Tryz.prog w
    = .ok (.agg #[.pointer (some ⟨1, 43, none⟩), .pointer (some ⟨w.heap.size, 0, none⟩), .int .u64 150]) (w.alloc (.cells #[.pointer (some e)] 43)) := by kernel_rfl
theorem As.partsPP (a : Addr) (w : World) : (ReflectliteValue.parts (.agg #[.pointer (some ⟨1, 53, none⟩), .pointer (some a), .int .u64 150])).run Tryz.prog w = .ok (some (53, a, 150)) w := by kernel_rfl
theorem As.partsPa (a : Addr) (w : World) : (ReflectliteValue.parts (.agg #[.pointer (some ⟨1, 43, none⟩), .pointer (some a), .int .u64 406])).run Tryz.prog w = .ok (some (43, a, 406)) w := by kernel_rfl
theorem As.partsP (a : Addr) (w : World) : (ReflectliteValue.parts (.agg #[.pointer (some ⟨1, 43, none⟩), .pointer (some a), .int .u64 150])).run Tryz.prog w = .ok (some (43, a, 150)) w := by kernel_rfl
theorem As.elemOfPP (w : World) : (Rtype.elem? 53).run Tryz.prog w = .ok (some 43) w := by kernel_rfl
theorem As.mkP (p : Addr) (w : World) : (ReflectliteValue.mk 43 p ReflectliteValue.flagAddr).run Tryz.prog w = .ok (.agg #[.pointer (some ⟨1, 43, none⟩), .pointer (some p), .int .u64 406]) w := by kernel_rfl
theorem As.directP (w : World) : (Rtype.directlyAssignable 43 43).run Tryz.prog w = .ok true w := by kernel_rfl
theorem As.via (z : Sem Value) (f : TypeId → Addr → Nat → Nat → Sem Value) (v : Value) : ReflectliteValue.method z f #[v] = (do match ← ReflectliteValue.parts v with | none => z | some (t, a, fl) => f t a fl (fl % 32)) := rfl
theorem As.isNilPP (a p : Addr) (W : World) (ha : W.cell? a = some (.pointer (some p))) :
    (ReflectliteValue.method (ReflectliteValue.valueError "reflectlite.Value.IsNil" 0) ReflectliteValue.isNil #[.agg #[.pointer (some ⟨1, 53, none⟩), .pointer (some a), .int .u64 150]]).run Tryz.prog W = .ok (.bool false) W := by
  rw [As.via]
  simp only [Sem.run_bind, As.partsPP, Result.andThen]
  simp [ReflectliteValue.isNil, loadVar, isAgg, underlying, Tryz.underlying53, ha, Result.andThen]
theorem As.elemVPP (a p : Addr) (W : World) (ha : W.cell? a = some (.pointer (some p))) :
    (ReflectliteValue.method (ReflectliteValue.valueError "reflectlite.Value.Elem" 0) ReflectliteValue.elem #[.agg #[.pointer (some ⟨1, 53, none⟩), .pointer (some a), .int .u64 150]]).run Tryz.prog W
      = .ok (.agg #[.pointer (some ⟨1, 43, none⟩), .pointer (some p), .int .u64 406]) W := by
  rw [As.via]
  simp only [Sem.run_bind, As.partsPP, Result.andThen]
  simp [ReflectliteValue.elem, loadVar, isAgg, underlying, Tryz.underlying53, ha, Result.andThen, As.elemOfPP, As.mkP]
theorem As.setP (ta b e : Addr) (old : Value) (W : World) (hb : W.cell? b = some (.pointer (some e))) (ht : W.cell? ta = some old) (hf : W.frozen? ta = false) :
    (ReflectliteValue.set #[.agg #[.pointer (some ⟨1, 43, none⟩), .pointer (some ta), .int .u64 406], .agg #[.pointer (some ⟨1, 43, none⟩), .pointer (some b), .int .u64 150]]).run Tryz.prog W
      = .ok (.tuple #[]) (W.setCell ta (.pointer (some e))) := by
  suffices h : ∃ k : Option (TypeId × Addr × Nat) → Option (TypeId × Addr × Nat) → Sem Value, (∀ v x, ReflectliteValue.set #[v, x] = (do let p ← ReflectliteValue.parts v; let q ← ReflectliteValue.parts x; k p q)) ∧ (k (some (43, ta, 406)) (some (43, b, 150))).run Tryz.prog W = .ok (.tuple #[]) (W.setCell ta (.pointer (some e))) by
    obtain ⟨k, h1, h2⟩ := h
    rw [h1]
    simp only [Sem.run_bind, As.partsPa, As.partsP, Result.andThen]
    exact h2
  refine ⟨_, fun v x => rfl, ?_⟩
  simp [ReflectliteValue.flagAddr, loadVar, isAgg, underlying, Tryz.underlying43, hb, Result.andThen, As.directP, storeVar, Value.cells, storeCells, Addr.add]
  rw [run_store Tryz.prog W ta _ _ (by rfl)]
  simp [ht, hf]
/-- What the handle of 'error' is in a world. -/
def LaidE (w : World) : Prop := w.cell? ⟨0, 0, none⟩ = some (.iface 108 (.agg #[.pointer (some ⟨1, 24, none⟩)]))
end Go.Proofs.YtodooppapciegaaGreatDoor
namespace Go.Proofs.YtodooppapciegaaGreatDoor
open Go.RowKit Go.Extern.Stop Go.Stop Go.Extern
set_option linter.unusedVariables false

theorem celS {w : World} {B : Nat} {cs : Array Value} {t : TypeId} (h : w.heap[B]? = some (.cells cs t (0, 0))) (i : Nat) (v : Value) (hv : cs[i]? = some v) : w.cell? ⟨B, i, none⟩ = some v := by
  simp only [World.cell?, h]
  exact hv
theorem frzS {w : World} {B : Nat} {cs : Array Value} {t : TypeId} (h : w.heap[B]? = some (.cells cs t (0, 0))) (i : Nat) : w.frozen? ⟨B, i, none⟩ = false := by
  simp only [World.frozen?, h]
  simp
theorem cell_old {W W' : World} {p : Addr} {v : Value} (h : W.cell? p = some v) (hB : Below W.heap.size W W') : W'.cell? p = some v := (hB.cell (World.block_lt_of_cell? _ _ h)).trans h
theorem LaidE.below {W W' : World} (h : LaidE W) (hB : Below W.heap.size W W') : LaidE W' := cell_old h hB
set_option maxRecDepth 100000 in
set_option maxHeartbeats 4000000 in
/-- errors.As of a fault, at a variable for one. -/
theorem as_hit (e t : Addr) (old : Value) (w : World) (hg : LaidE w) (ht0 : w.cell? t = some old) (hf0 : w.frozen? t = false) :
    Calls Tryz.prog 15 #[.iface 43 (.pointer (some e)), .iface 53 (.pointer (some t))] w fun ev w' => ev = .returned (.bool true) ∧ ∃ W4, Below w.heap.size w W4 ∧ w' = W4.setCell t (.pointer (some e)) := by
  have x1 := @run_callFunc_extern Tryz.prog 33 _ (fun args => ReflectliteValue.unpack (args.getD 0 (.tuple #[]))) Tryz.func33 (by kernel_rfl) (by kernel_rfl) (by kernel_rfl) (by kernel_rfl)
  have x2 := @run_callFunc_extern Tryz.prog 34 _ (ReflectliteValue.methodAny (ReflectliteValue.valueError "reflectlite.Value.Type" 0) (fun t _ _ _ => ReflectliteType.toType t)) Tryz.func34 (by kernel_rfl) (by kernel_rfl) (by kernel_rfl) (by kernel_rfl)
  have x3 := @run_callFunc_extern Tryz.prog 35 _ (ReflectliteValue.method (ReflectliteValue.valueError "reflectlite.Value.IsNil" 0) ReflectliteValue.isNil) Tryz.func35 (by kernel_rfl) (by kernel_rfl) (by kernel_rfl) (by kernel_rfl)
  have x4 := @run_callFunc_extern Tryz.prog 99 _ (ReflectliteType.abiMethod fun t => do pure (.int .u8 (← Rtype.kind t))) Tryz.func99 (by kernel_rfl) (by kernel_rfl) (by kernel_rfl) (by kernel_rfl)
  have x5 := @run_callFunc_extern Tryz.prog 112 _ (ReflectliteType.method ReflectliteType.elem) Tryz.func112 (by kernel_rfl) (by kernel_rfl) (by kernel_rfl) (by kernel_rfl)
  have x6 := @run_callFunc_extern Tryz.prog 113 _ (ReflectliteType.relation "Implements" ReflectliteType.implements_) Tryz.func113 (by kernel_rfl) (by kernel_rfl) (by kernel_rfl) (by kernel_rfl)
  have x7 := @run_callFunc_extern Tryz.prog 55 _ ReflectliteType.typeOf Tryz.func55 (by kernel_rfl) (by kernel_rfl) (by kernel_rfl) (by kernel_rfl)
  have x8 := @run_callFunc_extern Tryz.prog 110 _ (ReflectliteType.relation "AssignableTo" ReflectliteType.assignableTo) Tryz.func110 (by kernel_rfl) (by kernel_rfl) (by kernel_rfl) (by kernel_rfl)
  have x9 := @run_callFunc_extern Tryz.prog 56 _ (ReflectliteValue.method (ReflectliteValue.valueError "reflectlite.Value.Elem" 0) ReflectliteValue.elem) Tryz.func56 (by kernel_rfl) (by kernel_rfl) (by kernel_rfl) (by kernel_rfl)
  have x10 := @run_callFunc_extern Tryz.prog 57 _ ReflectliteValue.set Tryz.func57 (by kernel_rfl) (by kernel_rfl) (by kernel_rfl) (by kernel_rfl)
  have y1 := As.valueOfPP
  have y2 := As.typePP
  have y3 := As.mKind
  have y4 := As.mElem
  have y5 := As.mImpl
  have y6 := As.mAsgn
  have y7 := As.kindPP
  have y8 := As.kindP
  have y9 := As.elemPP
  have y10 := As.implP
  have y11 := As.typeOfP
  have y12 := As.asgnP
  have y13 := As.valueOfP
  have b1 : Below w.heap.size w (w.alloc (.cells #[.pointer (some t)] 53)) := (Below.refl _ w).alloc (Nat.le_refl _) _
  have b2 := b1.alloc b1.size (.cells #[.pointer (some ⟨1, 53, none⟩), .pointer (some ⟨w.heap.size, 0, none⟩), .int .u64 150] 82)
  have b3 := b2.alloc b2.size (.cells #[.pointer (some ⟨1, 53, none⟩), .pointer (some ⟨w.heap.size, 0, none⟩), .int .u64 150] 82)
  have b4 := b3.alloc b3.size (.cells #[.pointer (some e)] 43)
  have n8 := As.isNilPP ⟨w.heap.size, 0, none⟩ t _ (show ((w.alloc (.cells #[.pointer (some t)] 53)).alloc (.cells #[.pointer (some ⟨1, 53, none⟩), .pointer (some ⟨w.heap.size, 0, none⟩), .int .u64 150] 82)).cell? _ = _ by simp)
  have hg2 := cell_old hg b2
  have el := As.elemVPP ⟨w.heap.size, 0, none⟩ t _ (show (((w.alloc (.cells #[.pointer (some t)] 53)).alloc (.cells #[.pointer (some ⟨1, 53, none⟩), .pointer (some ⟨w.heap.size, 0, none⟩), .int .u64 150] 82)).alloc (.cells #[.pointer (some ⟨1, 53, none⟩), .pointer (some ⟨w.heap.size, 0, none⟩), .int .u64 150] 82)).cell? _ = _ by
    rw [World.cell?_alloc_lt _ _ ⟨w.heap.size, 0, none⟩ (by simp; omega)]; simp)
  have htl : t.block < w.heap.size := World.block_lt_of_cell? _ _ ht0
  have st := As.setP t ⟨w.heap.size + 1 + 1 + 1, 0, none⟩ e old _ (show ((((w.alloc (.cells #[.pointer (some t)] 53)).alloc (.cells #[.pointer (some ⟨1, 53, none⟩), .pointer (some ⟨w.heap.size, 0, none⟩), .int .u64 150] 82)).alloc (.cells #[.pointer (some ⟨1, 53, none⟩), .pointer (some ⟨w.heap.size, 0, none⟩), .int .u64 150] 82)).alloc (.cells #[.pointer (some e)] 43)).cell? _ = _ by
      rw [World.cell?_alloc_at _ _ _ _ (by simp)]; rfl) (cell_old ht0 b4)
    (by rw [World.frozen?_alloc_old _ _ t (by simp; omega), World.frozen?_alloc_old _ _ t (by simp; omega), World.frozen?_alloc_old _ _ t (by simp; omega), World.frozen?_alloc_old _ _ t (Nat.ne_of_lt htl)]; exact hf0)
  have B4 := hide b4
  clear b1 b2 b3 b4 htl
  unfold LaidE at hg
  go_enter Tryz.func15, Tryz.ntmps15
  go_wp2
  refine wp_loop_rounds 1 ?_
  rw [rounds_succ]
  go_wp2
  go_ret
  exact ⟨rfl, _, B4.out, rfl⟩
end Go.Proofs.YtodooppapciegaaGreatDoor
namespace Go.Proofs.YtodooppapciegaaGreatDoor
open Go.RowKit Go.Extern.Stop Go.Stop Go.Extern
set_option linter.unusedVariables false

set_option maxRecDepth 100000 in
set_option maxHeartbeats 4000000 in
theorem fault_some (k : Nat) (c a : Int) (w : World) (hc : c ≠ 0) (hk : w.heap[k]? = some (.cells #[.int .i64 c, .int .i64 a] 45 (0, 0))) (hE : LaidE w) :
    Calls Tryz.prog 5 #[.iface 43 (.pointer (some ⟨k, 0, none⟩))] w fun ev w' => ev = .returned (.tuple #[.int .i64 c, .int .i64 a, .bool true]) ∧ Below w.heap.size w w' := by
  have b0 : Below w.heap.size w (w.alloc (.cells #[.pointer none] 43)) := (Below.refl _ w).alloc (Nat.le_refl _) _
  have h0 : (w.alloc (.cells #[.pointer none] 43)).heap[w.heap.size]? = some (.cells #[.pointer none] 43 (0, 0)) := heap_alloc_new w _
  have ka := as_hit ⟨k, 0, none⟩ ⟨w.heap.size, 0, none⟩ (.pointer none) (w.alloc (.cells #[.pointer none] 43)) (hE.below b0) (celS h0 0 _ rfl) (frzS h0 0)
  have KA := hide ka
  have HK := hide hk
  have B0 := hide b0
  have H0 := hide h0
  have key : ∀ W4, Below (w.alloc (.cells #[.pointer none] 43)).heap.size (w.alloc (.cells #[.pointer none] 43)) W4 → (W4.setCell ⟨w.heap.size, 0, none⟩ (.pointer (some ⟨k, 0, none⟩))).cell? ⟨w.heap.size, 0, none⟩ = some (.pointer (some ⟨k, 0, none⟩)) ∧ (W4.setCell ⟨w.heap.size, 0, none⟩ (.pointer (some ⟨k, 0, none⟩))).cell? ⟨k, 0, none⟩ = some (.int .i64 c) ∧ (W4.setCell ⟨w.heap.size, 0, none⟩ (.pointer (some ⟨k, 0, none⟩))).cell? ⟨k, 1, none⟩ = some (.int .i64 a) ∧ Below w.heap.size w (W4.setCell ⟨w.heap.size, 0, none⟩ (.pointer (some ⟨k, 0, none⟩))) := by
    intro W4 hB
    have hlt : k < w.heap.size := (Array.getElem?_eq_some_iff.1 hk).1
    have r1 : W4.heap[w.heap.size]? = _ := (hB.block _ (Array.getElem?_eq_some_iff.1 h0).1).trans h0
    have r2 := heap_setCell_same W4 w.heap.size 0 _ _ (.pointer (some ⟨k, 0, none⟩)) r1
    have hBw : Below w.heap.size w W4 := bseq b0 hB
    have r3 : W4.heap[k]? = _ := (hBw.block _ hlt).trans hk
    have r4 := (heap_setCell_other W4 ⟨w.heap.size, 0, none⟩ k (.pointer (some ⟨k, 0, none⟩)) (Nat.ne_of_lt hlt)).trans r3
    exact ⟨celS r2 0 _ rfl, celS r4 0 _ rfl, celS r4 1 _ rfl, hBw.setCell (p := ⟨w.heap.size, 0, none⟩) (Nat.le_refl _) _⟩
  have KEY := hide key
  clear ka hk b0 h0 key
  have d3 : (c == 0) = false := by simp [hc]
  go_enter Tryz.func5, Tryz.ntmps5
  go_wp2_with (go_at_call 15; refine (KA.out).mono ?_; rintro ev x ⟨rfl, W4, hB4, rfl⟩; obtain ⟨k1, k2, k3, k4⟩ := KEY.out W4 hB4; have K4 := hide k4; clear k4 hB4)
  try (go_quiet (fail); go_wp2_with (fail))
  go_ret3
  first | exact ⟨rfl, K4.out⟩ | exact ⟨rfl, below_drewN K4.out _⟩
end Go.Proofs.YtodooppapciegaaGreatDoor
namespace Go.Proofs.YtodooppapciegaaGreatDoor
open Go.RowKit Go.Shelf
set_option linter.unusedVariables false

theorem xmk_yes {b : UInt8} (h : xmk b.toNat = true) : xq1 b = [92, b] := by unfold xq1; rw [if_pos h]
theorem xmk_no {b : UInt8} (h : xmk b.toNat = false) : xq1 b = [b] := by unfold xq1; rw [h]; rfl
theorem bl_at (s : ByteArray) (k : Nat) (h : k < s.size) : (bl s)[k]'(by rw [bl_len]; exact h) = s[k]'h := rfl
end Go.Proofs.YtodooppapciegaaGreatDoor
namespace Go.Proofs.YtodooppapciegaaGreatDoor
open Go.RowKit Go.Shelf
set_option linter.unusedVariables false

set_option maxHeartbeats 1000000 in
theorem xcut_any (s : ByteArray) (m : Nat) (w : World) (hm : m ≤ 1048576) :
    Calls Tryz.prog 7 #[.string s, .int .i64 (m : Int)] w fun e w' => e = .returned (.string (s.extract 0 m)) ∧ w' = w := by
  have hmI : (m : Int) ≤ 1048576 := by omega
  by_cases h : m < s.size
  · have hI : (m : Int) < (s.size : Int) := by omega
    clear h
    go_enter Tryz.func7, Tryz.ntmps7
    go_wp2
    go_ret
    exact ⟨rfl, rfl⟩
  · have hI : (s.size : Int) ≤ (m : Int) := by omega
    have he : s.extract 0 m = s := by
      have : s.extract 0 m = s.extract 0 s.size := by
        ext1
        simp only [ByteArray.data_extract]
        rw [Array.extract_eq_self_of_le (by simpa using (show s.size ≤ m by omega)), Array.extract_eq_self_of_le (by simp)]
      rw [this]
      simp
    rw [he]
    clear h he
    go_enter Tryz.func7, Tryz.ntmps7
    go_wp2
    go_ret
    exact ⟨rfl, rfl⟩
end Go.Proofs.YtodooppapciegaaGreatDoor
namespace Go.Proofs.YtodooppapciegaaGreatDoor
open Go.RowKit Go.Shelf
set_option linter.unusedVariables false
set_option linter.unusedSimpArgs false
attribute [local go_sem] Oper.semAt_some
theorem pcsF_length (its : List Kd) (l : List UInt8) : ∀ (k p : Nat) (σ : Rs), (pcsF its l k p σ).length ≤ k
  | 0, p, σ => Nat.le_refl _
  | k + 1, p, σ => by
    unfold pcsF
    split
    · rw [List.length_cons]
      split
      · exact Nat.succ_le_succ (pcsF_length its l k _ _)
      · split
        · exact Nat.succ_le_succ (Nat.zero_le _)
        · exact Nat.succ_le_succ (pcsF_length its l k _ _)
    · exact Nat.zero_le _
set_option maxRecDepth 100000 in
theorem run_func_nilW (gf : Nat) (lb : Array Value) (w : World) : Sem.run Tryz.prog (binOp BinOp.eql 33 (Value.func (Fn.func gf) #[] lb) Value.nilFunc) w = .ok (.bool false) w := by
  rfl
theorem piece_sameW (a b : Int) (w : World) : (Op.equalIn 10000 36 (.agg #[.int .i64 a, .int .i64 b]) (.agg #[.int .i64 a, .int .i64 b])).run Tryz.prog w = .ok true w := by
  rw [run_equalIn_agg w 9999 36 _ _ Tryz.fieldsPc Tryz.noHeldPc]
  have u3 := Tryz.underlying3
  have a3 := Tryz.isAgg3
  unfold Program.fieldsOf
  rw [Tryz.underlying36]
  simp [Op.eqFields, part, u3, a3, go_sem]
theorem results_boxW {P : Program} {fn : Func} {p : Tmp} {ty : TypeId} (h : fn.results = #[.cell p ty]) (tmps : Array Value) (w : World) (g : Nat) (t : TypeId) (v : Value)
    (hp : tmps.getD p undef = .pointer (some ⟨g, 0, none⟩)) (hg : Boxed w g t v) (h1 : ∀ w' : World, w'.cell? ⟨g, 0, none⟩ = some v → (loadVar ty ⟨g, 0, none⟩).run P w' = .ok v w') :
    (results fn tmps).run P w = .ok v w := by
  have hp' : tmps[p]?.getD undef = .pointer (some ⟨g, 0, none⟩) := by simpa using hp
  simp [results, h, Sem.run_bind, Result.andThen, hp', asAddr, h1 w hg.cell]
set_option maxRecDepth 100000 in
set_option maxHeartbeats 4000000 in
theorem seekPlaces_walk (a s : ByteArray) (w : World) (ha : a.size ≤ 9223372036854775807) (hE : LaidE w) :
    Calls Tryz.prog 3 #[.string a, .string s] w fun e w' => e = .returned (.bool true) ∧ Below w.heap.size w w' := by
  have b3 := (Boxed.new w 9 (.string s)).alloc (.cells #[.bool false] 4)
  have b4 := Boxed.new (w.alloc (.cells #[.string s] 9)) 4 (.bool false)
  have hB0 : Below w.heap.size w ((w.alloc (.cells #[.string s] 9)).alloc (.cells #[.bool false] 4)) := ((Below.refl _ w).alloc (Nat.le_refl _) _).alloc (by simp) _
  have kc := fun W => inW (m := 2) (xcompile_anyL a W ha)
  have kw := fun W => inW (m := 2) (xworks_any W)
  have kf := fun k c a W (h1 : c ≠ 0) (hk : W.heap[k]? = some (.cells #[.int .i64 c, .int .i64 a] 45 (0, 0))) (hW : LaidE W) => inW (m := 2) (fault_some k c a W h1 hk hW)
  have kcut := fun W => inW (m := 2) (xcut_any s 300 W (by decide))
  have HE := hide (hE.below hB0)
  have B3 := hide b3
  have B4 := hide b4
  have HB0 := hide hB0
  have KC := hide kc
  have KW := hide kw
  have KF := hide kf
  have KCUT := hide kcut
  clear b3 b4 hB0 kc kw kf kcut hE ha
  refine (callsIn_wide (n := 3)).1 ?_
  refine callsIn_of_wp_marks Tryz.func3 rfl trivial ?_ rfl
  simp only [Tryz.ntmps3, List.size_toArray, List.length_cons, List.length_nil, Nat.reduceAdd, Nat.reduceSub, Array.replicate_succ, Array.replicate_zero, List.push_toArray, List.append_toArray, List.nil_append, List.cons_append]
  gi_upto_region 1 with (fail)
  obtain ⟨A4, hA4⟩ : ∃ A, A = w.heap.size + 1 := ⟨_, rfl⟩
  have e4 : (w.alloc (.cells #[.string s] 9)).heap.size = A4 := by rw [hA4]; simp
  rw [e4] at B4
  rw [← hA4]
  have HA4 := hide hA4
  clear hA4 e4
  generalize (w.alloc (.cells #[.string s] 9)).alloc (.cells #[.bool false] 4) = V at *
  have hw3 := hide (Array.getElem?_eq_some_iff.1 (show V.heap[w.heap.size]? = _ from B3.out)).1
  have hw4 := hide (Array.getElem?_eq_some_iff.1 (show V.heap[A4]? = _ from B4.out)).1
  gi_upto_region 2 with (refine ⟨trivial, ?_⟩; gi_at_call 4; refine (KC.out _).mono ?_; rintro e x ⟨hb, hr⟩; have HBX := hide hb; clear hb KC; rcases hr with ⟨k, c, c2, rfl, hk, hc⟩ | ⟨pb, D, its, rfl, hp, hl, hDV⟩)
  · have HK := hide hk
    have hb3 : Below x.heap.size x (x.alloc (.cells #[.pointer none] 22)) := (Below.refl _ x).alloc (Nat.le_refl _) _
    have hx5 := heap_alloc_new x (.cells #[.pointer none] 22)
    have HK1 := hide ((hb3.block k (Array.getElem?_eq_some_iff.1 hk).1).trans hk)
    have HE1 := hide ((HE.out.below HBX.out).below hb3)
    have HB1 := hide (bseq (bseq HB0.out HBX.out) hb3)
    have b41 : Boxed (x.alloc (.cells #[.pointer none] 22)) A4 4 (.bool false) := below_boxed hb3 (below_boxed HBX.out B4.out)
    have B41 := hide b41
    have HX5 := hide hx5
    obtain ⟨A5, hA5⟩ : ∃ A, A = x.heap.size := ⟨_, rfl⟩
    rw [← hA5] at HX5 ⊢
    clear hA5 hk hb3 hx5 b41 HBX HK B3
    generalize x.alloc (.cells #[.pointer none] 22) = X at *
    have KF1 := hide (KF.out k c c2 X hc HK1.out HE1.out)
    clear KF KCUT hc
    gi_wp2_with (refine ⟨trivial, ?_⟩; first
      | (gi_at_call 5; refine (KF1.out).mono ?_; rintro e z ⟨rfl, hz⟩; have HZ := hide hz; clear hz KF1; have c5 := celS ((HZ.out.block A5 (Array.getElem?_eq_some_iff.1 HX5.out).1).trans HX5.out) 0 _ rfl)
      | (gi_at_call 6; refine (KW.out _).mono ?_; rintro e z1 ⟨rfl, hz1⟩; have HZ1 := hide hz1; clear hz1; have B42 := hide (below_boxed HZ1.out (below_boxed HZ.out B41.out)); have f4 := B42.out.frozen; have c4 := B42.out.cell))
    exact ⟨_, results_boxW rfl _ _ A4 _ _ rfl (B42.out.set _) (fun _ h => load_boolX h), rfl, (bseq (bseq HB1.out HZ.out) HZ1.out).setCell (p := ⟨A4, 0, none⟩) (by have := HA4.out; show _ ≤ A4; omega) _⟩
  · obtain ⟨s', hs'⟩ : ∃ s', s' = s.extract 0 300 := ⟨_, rfl⟩
    have hs3 : s'.size ≤ 300 := by rw [hs', ByteArray.size_extract]; omega
    have kcut1 := fun W => KCUT.out W
    rw [← hs'] at kcut1
    have hpi := hp
    obtain ⟨iv0, hp1, hp2⟩ := hpi
    have hDx : ∀ k, D k → k < x.heap.size := hp2.1
    have KCUT1 := hide kcut1
    have b5 := Boxed.new x 22 (.pointer (some ⟨pb, 0, none⟩))
    have hb3 : Below x.heap.size x (x.alloc (.cells #[.pointer (some ⟨pb, 0, none⟩)] 22)) := (Below.refl _ x).alloc (Nat.le_refl _) _
    have B31 := hide (below_boxed hb3 (below_boxed HBX.out B3.out))
    have B41 := hide (below_boxed hb3 (below_boxed HBX.out B4.out))
    have HP1 := hide (hp.below hb3)
    have HB1 := hide (bseq (bseq HB0.out HBX.out) hb3)
    obtain ⟨A5, hA5⟩ : ∃ A, A = x.heap.size := ⟨_, rfl⟩
    have HA5 : Hid (A4 < A5) := by show _ < _; rw [hA5]; have := hw4.out; have := HBX.out.size; omega
    have HX : Hid ((x.alloc (.cells #[.pointer (some ⟨pb, 0, none⟩)] 22)).heap.size = A5 + 1) := by show _ = _; rw [hA5]; simp
    rw [← hA5] at b5 ⊢
    have hpb5 := (Array.getElem?_eq_some_iff.1 hp1).1
    rw [← hA5] at hDx hpb5
    have B5 := hide b5
    have HDX := hide hDx
    have HPB := hide hpb5
    have HDV := hide hDV
    have HP9 := hide (show pb ≠ w.heap.size from fun e => by rw [e, show x.heap[w.heap.size]? = _ from below_boxed HBX.out B3.out] at hp1; cases hp1)
    clear hA5 b5 hb3 hDV hpb5 kcut1 KCUT hs' hp hp1 hp2 HBX hDx KF HE B3 B4
    generalize x.alloc (.cells #[.pointer (some ⟨pb, 0, none⟩)] 22) = X at *
    have c3 := B31.out.cell
    have f3 := B31.out.frozen
    gi_upto_region 8 with (refine ⟨trivial, ?_⟩; gi_at_call 7; refine (KCUT1.out _).mono ?_; rintro e z ⟨rfl, hz⟩; obtain rfl : X = z := hz.symm; clear hz)
    obtain ⟨A10, hA10⟩ : ∃ A, A = X.heap.size := ⟨_, rfl⟩
    have hXs : (X.setCell ⟨w.heap.size, 0, none⟩ (.string s')).heap.size = A10 := by rw [hA10]; simp [World.setCell]
    have b3z := ((B31.out.set (.string s')).alloc (.cells #[.int .i64 0] 3)).alloc (.cells #[.int .i64 0] 3)
    have b4z := ((B41.out.other (B' := w.heap.size) (by have := HA4.out; omega) (.string s')).alloc (.cells #[.int .i64 0] 3)).alloc (.cells #[.int .i64 0] 3)
    have b5z := ((B5.out.other (B' := w.heap.size) (by have := HA4.out; have := HA5.out; omega) (.string s')).alloc (.cells #[.int .i64 0] 3)).alloc (.cells #[.int .i64 0] 3)
    have b10 := (Boxed.new (X.setCell ⟨w.heap.size, 0, none⟩ (.string s')) 3 (.int .i64 0)).alloc (.cells #[.int .i64 0] 3)
    have b11 := Boxed.new ((X.setCell ⟨w.heap.size, 0, none⟩ (.string s')).alloc (.cells #[.int .i64 0] 3)) 3 (.int .i64 0)
    have hbz : Below A10 (X.setCell ⟨w.heap.size, 0, none⟩ (.string s')) (((X.setCell ⟨w.heap.size, 0, none⟩ (.string s')).alloc (.cells #[.int .i64 0] 3)).alloc (.cells #[.int .i64 0] 3)) := ((Below.refl _ _).alloc (Nat.le_of_eq hXs.symm) _).alloc (by simp; omega) _
    have hpz := (HP1.out.keep (w' := X.setCell ⟨w.heap.size, 0, none⟩ (.string s')) ⟨by rw [hXs, hA10]; exact Nat.le_refl _, fun k hk => heap_setCell_other _ ⟨w.heap.size, 0, none⟩ k _ (fun e => by have := HDV.out k hk; have := hw3.out; simp only at e; omega)⟩ (heap_setCell_other _ ⟨w.heap.size, 0, none⟩ pb _ HP9.out)).below (by rw [hXs]; exact hbz)
    have hbw : Below w.heap.size w (((X.setCell ⟨w.heap.size, 0, none⟩ (.string s')).alloc (.cells #[.int .i64 0] 3)).alloc (.cells #[.int .i64 0] 3)) := (HB1.out.setCell (p := ⟨w.heap.size, 0, none⟩) (Nat.le_refl _) _).trans (hbz.mono (by have := HX.out; have := HA4.out; have := HA5.out; omega))
    have hzs : (((X.setCell ⟨w.heap.size, 0, none⟩ (.string s')).alloc (.cells #[.int .i64 0] 3)).alloc (.cells #[.int .i64 0] 3)).heap.size = A10 + 2 := by simp; omega
    rw [hXs] at b10
    rw [World.size_alloc, hXs] at b11
    have H10 : Hid (A10 = A5 + 1) := by show _ = _; rw [hA10]; exact HX.out
    rw [← hA10]
    have B3 := hide b3z
    have B4 := hide b4z
    have B5 := hide b5z
    have B10 := hide b10
    have B11 := hide b11
    have HP := hide hpz
    have HBW := hide hbw
    have HZS := hide hzs
    clear hA10 hXs b3z b4z b5z b10 b11 hbz hpz hbw hzs c3 f3 HP9 HP1 HB1 B31 B41 HX
    generalize ((X.setCell ⟨w.heap.size, 0, none⟩ (.string s')).alloc (.cells #[.int .i64 0] 3)).alloc (.cells #[.int .i64 0] 3) = Z at *
    have c3 := B3.out.cell
    have c5 := B5.out.cell
    have kall := inW (m := 2) (all_any D its a s' Z pb HP.out)
    have KALL := hide kall
    have hnil := run_func_nilW
    clear kall
    gi_wp2_with (refine ⟨trivial, ?_⟩; gi_at_call 8; refine (KALL.out).mono ?_; rintro e y ⟨rfl, hy⟩; have HY := hide hy; have HYB : Hid (Below Z.heap.size Z y) := (by show Below _ _ _; rw [hy]; exact (((Below.refl _ Z).alloc (Nat.le_refl _) _).alloc (by simp) _).alloc (by simp; omega) _); clear hy KALL; have c5 := (below_boxed HYB.out B5.out).cell)
    have hDA : ∀ k, D k → k < A10 := fun k hk => by have := HDX.out k hk; have := H10.out; omega
    have hpbA : pb < A10 := by
      obtain ⟨iv0, hp1, _⟩ := HP.out
      have := (Array.getElem?_eq_some_iff.1 hp1).1
      have := HPB.out
      have := H10.out
      omega
    have hPW : ∀ W', Below A10 Z W' → PatL D its a W' pb := fun W' h => HP.out.keep ⟨h.size, fun k hk => h.block k (hDA k hk)⟩ (h.block pb hpbA)
    have h3W : ∀ W', Below A10 Z W' → W'.cell? ⟨w.heap.size, 0, none⟩ = some (.string s') := fun W' h => (Boxed.cell (show Boxed W' w.heap.size 9 (.string s') from (h.block _ (by have := HA4.out; have := HA5.out; have := H10.out; omega)).trans B3.out))
    have h4W : ∀ W', Below A10 Z W' → Boxed W' A4 4 (.bool false) := fun W' h => (h.block _ (by have := HA4.out; have := HA5.out; have := H10.out; omega)).trans B4.out
    have h5W : ∀ W', Below A10 Z W' → W'.cell? ⟨A5, 0, none⟩ = some (.pointer (some ⟨pb, 0, none⟩)) := fun W' h => (Boxed.cell (show Boxed W' A5 22 (.pointer (some ⟨pb, 0, none⟩)) from (h.block _ (by have := HA4.out; have := HA5.out; have := H10.out; omega)).trans B5.out))
    have hsy : y.heap.size = A10 + 5 := by rw [HY.out]; simp; have := HZS.out; omega
    have hBy : Below A10 Z y := HYB.out.mono (by have := HZS.out; omega)
    have k10 : Boxed y A10 3 (.int .i64 0) := below_boxed HYB.out B10.out
    have k11 : Boxed y (A10 + 1) 3 (.int .i64 0) := below_boxed HYB.out B11.out
    have c0 : y.cell? ⟨Z.heap.size, 0, none⟩ = some (.pointer (some ⟨pb, 0, none⟩)) := by
      rw [HY.out]
      exact (((Boxed.new Z 22 (.pointer (some ⟨pb, 0, none⟩))).alloc (.cells #[.string s'] 9)).alloc (.cells #[.int .i64 0] 3)).cell
    have c1 : y.cell? ⟨Z.heap.size + 1, 0, none⟩ = some (.string s') := by
      rw [HY.out]
      have k := ((Boxed.new (Z.alloc (.cells #[.pointer (some ⟨pb, 0, none⟩)] 22)) 9 (.string s')).alloc (.cells #[.int .i64 0] 3)).cell
      simpa using k
    have c2 : y.cell? ⟨Z.heap.size + 1 + 1, 0, none⟩ = some (.int .i64 ((0 : Nat) : Int)) := by
      rw [HY.out]
      have k := (Boxed.new ((Z.alloc (.cells #[.pointer (some ⟨pb, 0, none⟩)] 22)).alloc (.cells #[.string s'] 9)) 3 (.int .i64 0)).cell
      simpa using k
    have hNy : ∀ k, (D k ∨ k = Z.heap.size + 1) → k < y.heap.size := fun k h => by
      rcases h with h | h
      · have := hDA k h; omega
      · have := HZS.out; omega
    have hN10 : ∀ k, k = A10 ∨ k = A10 + 1 → ¬ (D k ∨ k = Z.heap.size + 1) := fun k h1 h2 => by
      rcases h2 with h2 | h2
      · have := hDA k h2; omega
      · have := HZS.out; omega
    have hxs := pieces_x (fun _ => False) (fun k => D k ∨ k = Z.heap.size + 1) D its a Z.heap.size (Z.heap.size + 1) (Z.heap.size + 1 + 1) pb s' 0 y (by omega) (Nat.zero_le _) (by omega) hNy (hPW y hBy) (.inr rfl) (fun k h => .inl h) c0 c1 c2 id id id id
    have hlen : (pcs its (bl s') 0).length ≤ 301 := by
      have := pcsF_length its (bl s') ((bl s').length + 1 - 0) 0 ⟨[], [], List.replicate (its.length + 1) 0, 0, 0, false, false, 0, 0, false⟩
      rw [bl_len] at this
      unfold pcs
      rw [bl_len]
      omega
    have hwA : w.heap.size ≤ A10 := by have := HA4.out; have := HA5.out; have := H10.out; omega
    have hwB : ∀ W', Below A10 Z W' → Below w.heap.size w W' := fun W' h => HBW.out.trans (h.mono hwA)
    have HPW := hide hPW
    have H3W := hide h3W
    have H4W := hide h4W
    have H5W := hide h5W
    have HWB := hide hwB
    have HN10 := hide hN10
    have HLEN := hide hlen
    have HSY := hide hsy
    have HBY := hide hBy
    have HL := hide hl
    have HS3 := hide hs3
    clear hPW h3W h4W h5W hwB c0 c1 c2 c3 c5 B3 B4 B5 B10 B11 HP HPB HY HYB hDA hpbA hl hnil
    apply rangeP (gf := 37) (lb := #[.pointer (some ⟨Z.heap.size, 0, none⟩), .pointer (some ⟨Z.heap.size + 1, 0, none⟩), .pointer (some ⟨Z.heap.size + 1 + 1, 0, none⟩)]) (encs := encPc) rfl (enters_of Tryz.func37 (by kernel_rfl) rfl)
      hxs (Below.refl _ _) hNy (fun _ => rfl)
      (fun pre W' => (Boxed W' A10 3 (.int .i64 (toP 0 pre : Int)) ∧ Boxed W' (A10 + 1) 3 (.int .i64 (pre.length : Int))) ∧ (y.heap.size ≤ W'.heap.size ∧ Below A10 Z W'))
      (fun c pre W' => False)
      (Stab.and (Stab.and (Stab.boxed _ (fun pre => .int .i64 (toP 0 pre : Int)) (by omega)) (Stab.boxed _ (fun pre => .int .i64 ((pre : List (Nat × Nat)).length : Int)) (by omega))) (Stab.and (fun s A B h hs => Nat.le_trans h hs.1.2.2.2) (Stab.below (by omega) (by have := HZS.out; omega))))
      (fun c => Stab.pure _)
      ⟨⟨k10, k11⟩, Nat.le_refl _, hBy⟩ (fun x => #[.int .i64 (x.1 : Int), .int .i64 (x.2 : Int)]) 36
    case hsize => exact fun s W h => h.2.1
    case hassign =>
      intro l' x W' K hK
      simp only [encPc]
      gi_wp2_with (fail)
      exact hK _ ((Below.refl _ _).alloc (Nat.le_refl _) _) (heap_alloc_new _ _)
    case hbody =>
      rintro l' pre x Wb W' ⟨⟨h10, h11⟩, hsz', hbw⟩ hWb hpc hpx
      obtain ⟨q1, q2, q3, q4, q5, q6, q7, q8, q9⟩ := piece_facts hpx
      have hpl : pre.length + 1 ≤ 301 := by
        have h1 := hpx.length_le
        rw [List.length_append] at h1
        have := HLEN.out
        simp at h1
        omega
      have hP : Box2 W' Wb.heap.size 36 (.int .i64 (x.1 : Int)) (.int .i64 (x.2 : Int)) := hpc
      rw [bl_len] at q4
      have hs3 := HS3.out
      have km : ∀ W, Below A10 Z W → CallsIn (Fence.wide.inRound l') 0 Tryz.prog 9 #[.pointer (some ⟨pb, 0, none⟩), .string s', .int .i64 (x.1 : Int)] W fun e w' => e = .returned (.tuple #[.int .i64 (x.2 : Int), .bool true]) ∧ Below W.heap.size W w' := fun W hW => by
        have k := match_any D its a s' W pb (HPW.out W hW) (by have := HL.out; omega) (by omega) (x.1 : Int) (by omega)
        rw [q1] at k
        exact inR k
      have kb1 : ∀ W, CallsIn (Fence.wide.inRound l') 0 Tryz.prog 10 #[.string s', .int .i64 (x.1 : Int)] W fun e w' => e = .returned (.bool true) ∧ Below W.heap.size W w' := fun W => by
        have k := refBegins_any s' (x.1 : Int) W (by omega)
        rw [q5] at k
        exact inR k
      have kb2 : ∀ W, CallsIn (Fence.wide.inRound l') 0 Tryz.prog 10 #[.string s', .int .i64 (x.2 : Int)] W fun e w' => e = .returned (.bool true) ∧ Below W.heap.size W w' := fun W => by
        have k := refBegins_any s' (x.2 : Int) W (by omega)
        rw [q6] at k
        exact inR k
      obtain ⟨t, ht⟩ : ∃ t, t = toP 0 pre := ⟨_, rfl⟩
      rw [← ht] at q2 q7 q8 h10
      obtain ⟨⟨F1, F2, F3⟩, hF⟩ : ∃ F, findV its (bl s') (t : Int) = F := ⟨_, rfl⟩
      have kf : ∀ W, Below A10 Z W → CallsIn (Fence.wide.inRound l') 0 Tryz.prog 11 #[.pointer (some ⟨pb, 0, none⟩), .string s', .int .i64 (t : Int)] W fun e w' => e = .returned (.tuple #[.agg #[.int .i64 (F1 : Int), .int .i64 (F2 : Int)], .bool true]) ∧ Below W.heap.size W w' := fun W hW => by
        have k := find_any D its a s' W pb (HPW.out W hW) (by have := HL.out; omega) (by omega) (t : Int) (by omega)
        rw [hF] at k q7
        simp only at q7
        rw [q7] at k
        exact inR k
      rw [hF] at q8
      simp only at q8
      have fin : ∀ W4, Below W'.heap.size W' W4 → (W4.cell? ⟨A10, 0, none⟩ = some (.int .i64 (t : Int)) ∧ W4.frozen? ⟨A10, 0, none⟩ = false ∧ W4.cell? ⟨A10 + 1, 0, none⟩ = some (.int .i64 (pre.length : Int)) ∧ W4.frozen? ⟨A10 + 1, 0, none⟩ = false) ∧ (W4.setCell ⟨A10, 0, none⟩ (.int .i64 (x.2 : Int))).cell? ⟨A10 + 1, 0, none⟩ = some (.int .i64 (pre.length : Int)) ∧ (W4.setCell ⟨A10, 0, none⟩ (.int .i64 (x.2 : Int))).frozen? ⟨A10 + 1, 0, none⟩ = false ∧
          Kp (fun _ => False) (fun k => D k ∨ k = Z.heap.size + 1) y.heap.size W' ((W4.setCell ⟨A10, 0, none⟩ (.int .i64 (x.2 : Int))).setCell ⟨A10 + 1, 0, none⟩ (.int .i64 ((pre.length : Int) + 1))) ∧
          (Boxed ((W4.setCell ⟨A10, 0, none⟩ (.int .i64 (x.2 : Int))).setCell ⟨A10 + 1, 0, none⟩ (.int .i64 ((pre.length : Int) + 1))) A10 3 (.int .i64 (toP 0 (pre ++ [x]) : Int)) ∧ Boxed ((W4.setCell ⟨A10, 0, none⟩ (.int .i64 (x.2 : Int))).setCell ⟨A10 + 1, 0, none⟩ (.int .i64 ((pre.length : Int) + 1))) (A10 + 1) 3 (.int .i64 ((pre ++ [x]).length : Int))) ∧
          y.heap.size ≤ ((W4.setCell ⟨A10, 0, none⟩ (.int .i64 (x.2 : Int))).setCell ⟨A10 + 1, 0, none⟩ (.int .i64 ((pre.length : Int) + 1))).heap.size ∧ Below A10 Z ((W4.setCell ⟨A10, 0, none⟩ (.int .i64 (x.2 : Int))).setCell ⟨A10 + 1, 0, none⟩ (.int .i64 ((pre.length : Int) + 1))) := by
        intro W4 hB4
        have g0 := below_boxed hB4 h10
        have g1 := below_boxed hB4 h11
        have g2 := g1.other (B' := A10) (by omega) (.int .i64 (x.2 : Int))
        have hsy := HSY.out
        have hA := hbw.size
        have hZ := HZS.out
        refine ⟨⟨g0.cell, g0.frozen, g1.cell, g1.frozen⟩, g2.cell, g2.frozen, ?_, ⟨?_, ?_⟩, ?_, ?_⟩
        · exact ((Kp.of_below hB4).trans (Kp.set _ (HN10.out A10 (.inl rfl)) (by omega))).trans (Kp.set _ (HN10.out (A10 + 1) (.inr rfl)) (by omega))
        · rw [toP_snoc]
          exact (g0.set _).other (by omega) _
        · rw [List.length_append]
          exact g2.set _
        · have := hB4.size
          simp [World.setCell]
          omega
        · exact ((hbw.trans (hB4.mono (by omega))).setCell (p := ⟨A10, 0, none⟩) (Nat.le_refl _) _).setCell (p := ⟨A10 + 1, 0, none⟩) (Nat.le_succ _) _
      have hPI : ∀ W4, Below W'.heap.size W' W4 → W4.cell? ⟨Wb.heap.size, 0, none⟩ = some (.int .i64 (x.1 : Int)) ∧ W4.cell? ⟨Wb.heap.size, 1, none⟩ = some (.int .i64 (x.2 : Int)) := fun W4 h => ⟨celOf (hP.below h) 0 _ rfl, celOf (hP.below h) 1 _ rfl⟩
      have hbw4 : ∀ W4, Below W'.heap.size W' W4 → Below A10 Z W4 := fun W4 h => hbw.trans (h.mono (by have := hbw.size; have := HZS.out; omega))
      have i1 : ¬ ((x.1 : Int) < (t : Int)) := by omega
      have i2 : ¬ ((x.2 : Int) < (x.1 : Int)) := by omega
      have i3 : ¬ ((x.1 : Int) < (F1 : Int)) := by omega
      have HPP := hide hP
      have KM := hide km
      have KB1 := hide kb1
      have KB2 := hide kb2
      have KFD := hide kf
      have FIN := hide fin
      have HPI := hide hPI
      have HB4 := hide hbw4
      have Q9 := hide q9
      have HF := hide hF
      have HT := hide ht
      have HPL := hide hpl
      have B0 := hide (Below.refl W'.heap.size W')
      have c3 := H3W.out W' hbw
      have c5 := H5W.out W' hbw
      obtain ⟨p0, p1⟩ := hPI W' (Below.refl _ _)
      clear km kb1 kb2 kf fin hPI hbw4 q9 hF ht hpl h10 h11 hbw hP hpc hpx q1 q2 q3 q4 q5 q6 q7 q8 hs3 hxs hNy
      gi_upto_region 14 with (refine ⟨trivial, ?_⟩; gi_at_call 9; refine (KM.out _ (HB4.out _ B0.out)).mono ?_; rintro e z ⟨rfl, hz⟩; replace B0 := hide (bseq B0.out hz); clear hz KM)
      have c3z := H3W.out z (HB4.out z B0.out)
      obtain ⟨p0z, p1z⟩ := HPI.out z B0.out
      obtain ⟨⟨t0z, _, _, _⟩, _⟩ := FIN.out z B0.out
      gi_upto_region 16 with (refine ⟨trivial, ?_⟩; first
        | (gi_at_call 10; refine (KB1.out _).mono ?_; rintro e z1 ⟨rfl, hz⟩; replace B0 := hide (bseq B0.out hz); clear hz KB1; have c3y := H3W.out z1 (HB4.out z1 B0.out); obtain ⟨p0y, p1y⟩ := HPI.out z1 B0.out)
        | (gi_at_call 10; refine (KB2.out _).mono ?_; rintro e z2 ⟨rfl, hz⟩; replace B0 := hide (bseq B0.out hz); clear hz KB2; have c3x := H3W.out z2 (HB4.out z2 B0.out); have c5x := H5W.out z2 (HB4.out z2 B0.out); obtain ⟨⟨t0x, _, _, _⟩, _⟩ := FIN.out z2 B0.out))
      gi_upto_region 17 with (refine ⟨trivial, ?_⟩; gi_at_call 11; refine (KFD.out _ (HB4.out _ B0.out)).mono ?_; rintro e z3 ⟨rfl, hz⟩; replace B0 := hide (bseq B0.out hz); clear hz KFD)
      have hb3 : Below z3.heap.size z3 (z3.alloc (.cells #[.int .i64 (F1 : Int), .int .i64 (F2 : Int)] 36)) := (Below.refl _ z3).alloc (Nat.le_refl _) _
      have hx3 : Box2 (z3.alloc (.cells #[.int .i64 (F1 : Int), .int .i64 (F2 : Int)] 36)) z3.heap.size 36 (.int .i64 (F1 : Int)) (.int .i64 (F2 : Int)) := heap_alloc_new z3 _
      replace B0 := hide (bseq B0.out hb3)
      obtain ⟨A16, hA16⟩ : ∃ A, A = z3.heap.size := ⟨_, rfl⟩
      rw [← hA16] at hx3 ⊢
      clear hA16 hb3
      generalize z3.alloc (.cells #[.int .i64 (F1 : Int), .int .i64 (F2 : Int)] 36) = Y at *
      obtain ⟨⟨t0, f0, n0, g0⟩, n1, g1, fin⟩ := FIN.out Y B0.out
      obtain ⟨p0w, p1w⟩ := HPI.out Y B0.out
      have q0 := celOf hx3 0 _ rfl
      have q1 := celOf hx3 1 _ rfl
      have hb2 : Box2 Y Wb.heap.size 36 (.int .i64 (x.1 : Int)) (.int .i64 (x.2 : Int)) := HPP.out.below B0.out
      have hpl := HPL.out
      have hadd : (pre.length : Int) + 1 ≤ 301 := by omega
      have FINN := hide fin
      clear fin hpl
      cases pre with
      | nil =>
        obtain rfl : t = 0 := HT.out
        have e9 := HF.out.symm.trans (Q9.out rfl)
        simp only [Prod.mk.injEq] at e9
        obtain ⟨rfl, rfl, _⟩ := e9
        have u16 : Y.heap[A16]? = some (.cells #[.int .i64 (x.1 : Int), .int .i64 (x.2 : Int)] 36 (0, 0)) := hx3
        have u13 : Y.heap[Wb.heap.size]? = some (.cells #[.int .i64 (x.1 : Int), .int .i64 (x.2 : Int)] 36 (0, 0)) := hb2
        have ps := piece_sameW (x.1 : Int) (x.2 : Int)
        have ng := Tryz.noGuardPc
        have hsy2 := HSY.out
        gi_wp2_with (fail)
        obtain ⟨e1, e2, e3, e4⟩ := FINN.out
        rw [show (((([] : List (Nat × Nat)).length : Nat) : Int) + 1) = 1 by rfl] at e1 e2 e3 e4
        first | exact ⟨e1, e2, e3, e4⟩ | (rw [hsy2] at e1 e3; exact ⟨e1, e2, e3, e4⟩)
      | cons y0 pre =>
        have hne : ¬ (((y0 :: pre).length : Nat) : Int) = 0 := by simp; omega
        obtain ⟨n, hn⟩ : ∃ n, n = (((y0 :: pre).length : Nat) : Int) := ⟨_, rfl⟩
        rw [← hn] at n0 n1 hadd hne FINN
        have HNN := hide hn
        clear hn
        have wn : wrap64 (n + 1) = n + 1 := by have := HNN.out; unfold wrap64; omega
        gi_wp2_with (fail)
        obtain ⟨e1, e2, e3, e4⟩ := FINN.out
        exact ⟨e1, e2, e3, e4⟩
    case hdone =>
      rintro D0 W' hD0 ⟨⟨h10, h11⟩, hsz', hbw⟩ hK
      obtain ⟨e1, e2, e3⟩ := ends_facts (its := its) (l := bl s')
      rw [bl_len] at e2 e3
      obtain ⟨⟨F1, F2, F3⟩, hF⟩ : ∃ F, findV its (bl s') 0 = F := ⟨_, rfl⟩
      obtain ⟨⟨L1, L2, L3⟩, hL⟩ : ∃ F, lastPV its (bl s') (s'.size : Int) = F := ⟨_, rfl⟩
      rw [hF] at e1
      rw [hF, hL] at e2 e3
      simp only at e1 e2 e3
      subst e2
      have hs3 := HS3.out
      have kf : ∀ W, Below A10 Z W → CallsIn Fence.wide 2 Tryz.prog 11 #[.pointer (some ⟨pb, 0, none⟩), .string s', .int .i64 0] W fun e w' => e = .returned (.tuple #[.agg #[.int .i64 (F1 : Int), .int .i64 (F2 : Int)], .bool L3]) ∧ Below W.heap.size W w' := fun W hW => by
        have k := find_any D its a s' W pb (HPW.out W hW) (by have := HL.out; omega) (by omega) 0 (by omega)
        rw [hF] at k
        exact inW k
      have kl : ∀ W, Below A10 Z W → CallsIn Fence.wide 2 Tryz.prog 12 #[.pointer (some ⟨pb, 0, none⟩), .string s', .int .i64 (s'.size : Int)] W fun e w' => e = .returned (.tuple #[.agg #[.int .i64 (L1 : Int), .int .i64 (L2 : Int)], .bool L3]) ∧ Below W.heap.size W w' := fun W hW => by
        have k := lastp_any D its a s' W pb (HPW.out W hW) (by have := HL.out; omega) (by omega) (s'.size : Int) (by omega)
        rw [hL] at k
        exact inW k
      have km : L3 = true → ∀ k : Nat, L1 < k → k ≤ s'.size → ∀ W, Below A10 Z W → CallsIn Fence.wide 2 Tryz.prog 9 #[.pointer (some ⟨pb, 0, none⟩), .string s', .int .i64 (k : Int)] W fun e w' => ∃ v : Int, e = .returned (.tuple #[.int .i64 v, .bool false]) ∧ Below W.heap.size W w' := fun h3 k h1 h2 W hW => by
        have k4 := match_any D its a s' W pb (HPW.out W hW) (by have := HL.out; omega) (by omega) (k : Int) (by omega)
        rw [(e3 h3).2.2.2 k h1 h2] at k4
        exact (inW k4).mono fun e w' ⟨q1, q2⟩ => ⟨_, q1, q2⟩
      obtain ⟨n, hn⟩ : ∃ n : Nat, n = (pcs its (bl s') 0).length := ⟨_, rfl⟩
      rw [← hn] at h11
      have hnI : (n : Int) ≤ 301 := by have := HLEN.out; omega
      have kn : L3 = true ↔ 0 < n := by
        rw [e1, hn]
        constructor
        · exact fun h => List.length_pos_iff.2 h
        · exact fun h => List.length_pos_iff.1 h
      have hy := HSY.out
      have hz := HZS.out
      have cb : ∀ z, Below W'.heap.size W' z → Below A10 Z z ∧ z.cell? ⟨A10 + 1, 0, none⟩ = some (.int .i64 (n : Int)) := fun z h => ⟨hbw.trans (h.mono (by have := hbw.size; omega)), (below_boxed h h11).cell⟩
      have fin : ∀ z, Below W'.heap.size W' z → z.cell? ⟨A4, 0, none⟩ = some (.bool false) ∧ z.frozen? ⟨A4, 0, none⟩ = false ∧ (z.setCell ⟨A4, 0, none⟩ (.bool true)).heap[D0]? = some (.deferred (some [])) ∧ Boxed (z.setCell ⟨A4, 0, none⟩ (.bool true)) A4 4 (.bool true) ∧ Below w.heap.size w (z.setCell ⟨A4, 0, none⟩ (.bool true)) := fun z h => by
        have h1 := (cb z h).1
        have h2 := H4W.out z h1
        have hDs : D0 < W'.heap.size := (Array.getElem?_eq_some_iff.1 hK).1
        have a4 := HA4.out
        have a5 := HA5.out
        have a10 := H10.out
        refine ⟨h2.cell, h2.frozen, ?_, h2.set _, (HWB.out z h1).setCell (p := ⟨A4, 0, none⟩) (by show _ ≤ A4; omega) _⟩
        rw [Below.heap_setCell _ _ _ _ (by show D0 ≠ A4; omega)]
        exact (h.block D0 hDs).trans hK
      have hD4 : A4 ≠ D0 := by have := HA5.out; have := H10.out; omega
      have KFD := hide kf
      have KLS := hide kl
      have KM := hide km
      have CB := hide cb
      have FIN := hide fin
      have KN := hide kn
      have E3 := hide e3
      have HDD := hide hD4
      have hwD : Hid (w.heap.size ≤ D0) := by show _ ≤ _; have := HA4.out; have := HA5.out; have := H10.out; omega
      have B0 := hide (Below.refl W'.heap.size W')
      have c3 := H3W.out W' hbw
      have c5 := H5W.out W' hbw
      clear kf kl km cb fin kn e3 hD4 hy hz h10 h11 hbw hK hD0 hsz' hF hL e1 hn hs3 hxs hNy hsy
      gi_upto_region 22 with (refine ⟨trivial, ?_⟩; gi_at_call 11; refine (KFD.out _ (CB.out _ B0.out).1).mono ?_; rintro e z1 ⟨rfl, hz⟩; replace B0 := hide (bseq B0.out hz); clear hz KFD)
      have hb3 : Below z1.heap.size z1 (z1.alloc (.cells #[.int .i64 (F1 : Int), .int .i64 (F2 : Int)] 36)) := (Below.refl _ z1).alloc (Nat.le_refl _) _
      have hx3 : Box2 (z1.alloc (.cells #[.int .i64 (F1 : Int), .int .i64 (F2 : Int)] 36)) z1.heap.size 36 (.int .i64 (F1 : Int)) (.int .i64 (F2 : Int)) := heap_alloc_new z1 _
      replace B0 := hide (bseq B0.out hb3)
      obtain ⟨A18, hA18⟩ : ∃ A, A = z1.heap.size := ⟨_, rfl⟩
      rw [← hA18] at hx3 ⊢
      have X18 := hide hx3
      clear hA18 hb3 hx3
      generalize z1.alloc (.cells #[.int .i64 (F1 : Int), .int .i64 (F2 : Int)] 36) = Y at *
      have d3 := H3W.out Y (CB.out _ B0.out).1
      have d5 := H5W.out Y (CB.out _ B0.out).1
      gi_upto_region 23 with (refine ⟨trivial, ?_⟩; gi_at_call 12; refine (KLS.out _ (CB.out _ B0.out).1).mono ?_; rintro e z2 ⟨rfl, hz⟩; replace B0 := hide (bseq B0.out hz); replace X18 := hide (X18.out.below hz); clear hz KLS)
      have hb3 : Below z2.heap.size z2 (z2.alloc (.cells #[.int .i64 (L1 : Int), .int .i64 (L2 : Int)] 36)) := (Below.refl _ z2).alloc (Nat.le_refl _) _
      have hx3 : Box2 (z2.alloc (.cells #[.int .i64 (L1 : Int), .int .i64 (L2 : Int)] 36)) z2.heap.size 36 (.int .i64 (L1 : Int)) (.int .i64 (L2 : Int)) := heap_alloc_new z2 _
      replace B0 := hide (bseq B0.out hb3)
      replace X18 := hide (X18.out.below hb3)
      obtain ⟨A20, hA20⟩ : ∃ A, A = z2.heap.size := ⟨_, rfl⟩
      rw [← hA20] at hx3 ⊢
      clear hA20 hb3
      generalize z2.alloc (.cells #[.int .i64 (L1 : Int), .int .i64 (L2 : Int)] 36) = T at *
      have t3 := H3W.out T (CB.out _ B0.out).1
      have t11 := (CB.out _ B0.out).2
      have u0 := celOf X18.out 0 _ rfl
      have v0 := celOf hx3 0 _ rfl
      have v1 := celOf hx3 1 _ rfl
      clear hx3
      cases L3 with
      | false =>
        have hn0 : n = 0 := by
          rcases Nat.eq_zero_or_pos n with h | h
          · exact h
          · exact absurd (KN.out.2 h) (by decide)
        rw [hn0] at t11
        rw [show ((0 : Nat) : Int) = 0 by rfl] at t11
        gi_upto_region 26 with (fail)
        all_goals try (exact absurd ‹some undef = some (Value.bool _)› (by intro h; cases h))
        obtain ⟨v, hv⟩ : ∃ v, v = wrap64 ((L1 : Int) + 1) := ⟨_, rfl⟩
        rw [← hv]
        clear hv
        have z3 := H3W.out T (CB.out _ B0.out).1
        gi_loopw [22] (fun iv wr => ∃ k : Int, iv = .int .i64 k ∧ Below T.heap.size T wr) (fun iv _ => 0)
        case atStart => exact ⟨v, rfl, Below.refl _ _⟩
        case round =>
          obtain ⟨k, rfl, hb⟩ := hrel
          have HBR := hide hb
          clear hb
          gi_wp2_with (refine ⟨trivial, ?_⟩; gi_at_call 6; refine (KW.out _).mono ?_; rintro e y2 ⟨rfl, hz1⟩; have HZ1 := hide (bseq (bseq B0.out HBR.out) hz1); clear hz1; obtain ⟨o1, o2, o3, o4, o5⟩ := FIN.out y2 HZ1.out)
          refine ⟨by simp, .inl ⟨_, _, rfl, run_takeDeferred o3, ?_⟩⟩
          exact ⟨_, results_boxW rfl _ _ A4 _ _ rfl (put_kept _ o3 o4 HDD.out) (fun _ h => load_boolX h), rfl, o5.trans (belowK_b (w := w) (Nat.le_refl _) _ D0 _ _ hwD.out o3 rfl rfl)⟩
      | true =>
        have hnp := KN.out.1 rfl
        obtain ⟨i1, i2, i3, i4⟩ := E3.out rfl
        have hs3 := HS3.out
        have j1 : ¬ ((L1 : Int) < (F1 : Int)) := by omega
        have j2 : ¬ ((s'.size : Int) < (L2 : Int)) := by omega
        have j3 : (0 : Int) < (n : Int) := by omega
        have wl : wrap64 ((L1 : Int) + 1) = ((L1 + 1 : Nat) : Int) := by unfold wrap64; omega
        gi_upto_region 26 with (fail)
        obtain ⟨m, hm⟩ : ∃ m : Nat, m = L1 + 1 := ⟨_, rfl⟩
        rw [show ((L1 : Int) + 1) = (m : Int) by omega]
        clear wl
        gi_loopw [22, 23, 24] (fun iv _ _ wr => ∃ k : Nat, iv = .int .i64 (k : Int) ∧ L1 < k ∧ k ≤ s'.size + 1 ∧ Below T.heap.size T wr) (fun iv _ _ _ => s'.size + 1 - (intOf iv).toNat)
        case atStart => exact ⟨m, rfl, by omega, by omega, Below.refl _ _⟩
        case round =>
          clear hm
          obtain ⟨k, rfl, hk1, hk2, hb⟩ := hrel
          have HB := hide (bseq B0.out hb)
          have HBT := hide hb
          clear hb
          have z3 := H3W.out _ (CB.out _ HB.out).1
          have z5 := H5W.out _ (CB.out _ HB.out).1
          by_cases hlt : k ≤ s'.size
          · have hltI : (k : Int) ≤ (s'.size : Int) := by omega
            have KM1 := hide (KM.out trivial k hk1 hlt _ (CB.out _ HB.out).1)
            clear KM
            gi_wp2_with (refine ⟨trivial, ?_⟩; gi_at_call 9; refine (KM1.out).mono ?_; rintro e y2 ⟨v, rfl, hz⟩; have HZ := hide (bseq HBT.out hz); clear hz KM1)
            go_roundw
            case rel => exact ⟨k + 1, by go_num, by omega, by omega, HZ.out⟩
            case measure => simp [intOf]; omega
          · have hge : ¬ ((k : Int) ≤ (s'.size : Int)) := by omega
            gi_wp2_with (refine ⟨trivial, ?_⟩; gi_at_call 6; refine (KW.out _).mono ?_; rintro e y2 ⟨rfl, hz1⟩; have HZ1 := hide (bseq HB.out hz1); clear hz1; obtain ⟨o1, o2, o3, o4, o5⟩ := FIN.out y2 HZ1.out)
            refine ⟨by simp, .inl ⟨_, _, rfl, run_takeDeferred o3, ?_⟩⟩
            exact ⟨_, results_boxW rfl _ _ A4 _ _ rfl (put_kept _ o3 o4 HDD.out) (fun _ h => load_boolX h), rfl, o5.trans (belowK_b (w := w) (Nat.le_refl _) _ D0 _ _ hwD.out o3 rfl rfl)⟩
    case hstop => exact fun D0 c pre W' _ _ h => h.elim
end Go.Proofs.YtodooppapciegaaGreatDoor
namespace Go.Proofs.YtodooppapciegaaGreatDoor
open Go.ChangeShapes Go.WideShapes Go.ChangeAt Go.RowKit
set_option linter.unusedVariables false

theorem own : ownKnob Tryz.prog.godebug = none := by kernel_rfl
theorem laidOut : laidOutB Tryz.prog = true := by kernel_rfl
theorem size_of_sized {s : ByteArray} (h : s.data.toList.length ≤ reachBytes) : s.size ≤ 140737488351232 := by
  have : s.data.toList.length = s.size := by simp
  have e : reachBytes = 140737488351232 := by decide
  omega
theorem bulk_pos {H : Type} (d : DataW H) : 1 ≤ Rows.uptoBulk d := by
  cases d with
  | lit l => cases l <;> simp [Rows.uptoBulk]
  | _ => simp [Rows.uptoBulk]
theorem bulk_len {H : Type} (l : List (DataW H)) : l.length ≤ Rows.uptoBulkAll l := by
  induction l with
  | nil => simp [Rows.uptoBulkAll]
  | cons d r ih =>
    have := bulk_pos d
    simp only [Rows.uptoBulkAll, List.length_cons]
    omega
theorem bulk_string {H : Type} (s : ByteArray) : s.size ≤ Rows.uptoBulk (H := H) (.lit (.string s.data.toList)) := by
  simp [Rows.uptoBulk]
theorem bulk_nums {H : Type} {d : DataW H} {zs : List Int} (h : d = .nil ∧ zs = [] ∨ ∃ el sp, d = .slice el sp ∧ el.length = zs.length) : zs.length ≤ Rows.uptoBulk d := by
  rcases h with ⟨_, rfl⟩ | ⟨el, sp, rfl, h⟩
  · simp
  · have := bulk_len el
    simp only [Rows.uptoBulk]
    omega
theorem bulk_of {H : Type} {l : List (DataW H)} (h : Rows.uptoSmall H l = true) : Rows.uptoBulkAll l ≤ 1048576 := of_decide_eq_true h

end Go.Proofs.YtodooppapciegaaGreatDoor
namespace Go.Proofs.YtodooppapciegaaGreatDoor
open Go.ChangeShapes Go.WideShapes Go.ChangeAt Go.RowKit
set_option linter.unusedVariables false

theorem gErrT : Tryz.prog.globalNamed "errors.errorType" = some 0 := by kernel_rfl
theorem errOnly : ((List.range Tryz.prog.types.size).filter fun t => Tryz.prog.rowNamed t [101, 114, 114, 111, 114]) = [24] := by kernel_rfl
theorem cutRt : (Tryz.prog.cutTypes.find? (·.1 == "internal/reflectlite.rtype")).map (·.2) = some 108 := by kernel_rfl
theorem handErr (ty : TypeId) (h : ty = 24) : typeHandle Tryz.prog ty = .pointer (some ⟨1, 24, none⟩) := by subst h; kernel_rfl
theorem laid_ofE {W : World} {L : List (String × DataW Unit)} (hH : (L.filter fun x => x.2.handleName?.isSome) = [("errors.errorType", Rows.laid_errors_errorType)]) (h : laidMetH Tryz.prog L W) : LaidE W := by
  unfold laidMetH at h
  rw [hH] at h
  obtain ⟨h1, h2⟩ := h
  have h3 := h2 _ (List.mem_singleton.2 rfl)
  simp only [show (Rows.laid_errors_errorType : DataW Unit).funcsIn? = none from rfl] at h3
  obtain ⟨name, u, ty, e1, e2, e3, e4, e5⟩ := h3
  have en : name = [101, 114, 114, 111, 114] := (Option.some.inj ((show (Rows.laid_errors_errorType : DataW Unit).handleName? = some [101, 114, 114, 111, 114] from rfl).symm.trans e1)).symm
  subst en
  obtain rfl := Option.some.inj (cutRt.symm.trans e2)
  have hm : ty ∈ (List.range Tryz.prog.types.size).filter fun t => Tryz.prog.rowNamed t [101, 114, 114, 111, 114] := List.mem_filter.2 ⟨List.mem_range.2 e3, e4⟩
  rw [errOnly] at hm
  have ht := List.mem_singleton.1 hm
  have c := World.var?_cell gErrT e5 0
  rw [handErr ty ht] at c
  unfold LaidE
  rw [c]
  rfl
theorem door_metE (os : Os) (args : Array Value) {L : List (String × DataW Unit)} (hL : (L.filter fun x => x.2.handleName?.isNone) = [])
    (hH : (L.filter fun x => x.2.handleName?.isSome && x.2.funcsIn?.isNone) = [("errors.errorType", Rows.laid_errors_errorType)]) (hF : funcsListed L = []) : laidMetH Tryz.prog L ((World.doorLaid Tryz.prog 100 os).forCall (fun _ _ => 0) ⟨#[], args, []⟩).memory :=
  laidMetH_of_parts3 (fuel := 8) (by rw [hL]; exact laidMet_of_run' 8 (by kernel_rfl) (by kernel_rfl)) (by rw [hH]; kernel_rfl) (by rw [hF]; rfl)
end Go.Proofs.YtodooppapciegaaGreatDoor
namespace Go.Proofs.YtodooppapciegaaGreatDoor.seekPlaces
open Go.ChangeShapes Go.WideShapes Go.ChangeAt Go.RowKit Go.Proofs.YtodooppapciegaaGreatDoor
set_option linter.unusedVariables false

set_option maxRecDepth 100000 in
theorem contract (H : Type) (enc : TypeId × Value → H) (W : World) (base : Nat) (args : Array Value) (ds gs : List (DataW H)) (before : List MemPlace)
    (hval : ∀ (j : Nat) t v, Tryz.f3.params[j]? = some t → args[j]? = some v → Value.okWide Tryz.prog W .any base t v)
    (hW : DataW.Whole enc Tryz.prog Tryz.f3.params.toList Rows.seekPlacesSpec.vars false W args.toList ds gs before) (hlaid : laidMetH Tryz.prog Rows.seekPlacesRow.laid W) :
    Calls Tryz.prog 3 args W fun e W' => ∃ v, e = .returned v ∧ Rows.seekPlacesSpec.post enc Tryz.prog Tryz.f3 false true false false W args v W' := by
  have hW' := hW
  have hE := laid_ofE rfl hlaid
  obtain ⟨p, q, hA0, hV, rfl, hfz, hnd⟩ := hW
  have hA : DataW.TrodAll enc Tryz.prog W 0 (fun _ => true) true Tryz.f3.params.toList args.toList ds p := hA0
  rw [Tryz.params3] at hA hval
  obtain ⟨v0, vs0, d0, ds0, p0, q0, hargs, rfl, rfl, h0, r0⟩ := trodAll_cons hA
  obtain ⟨v1, vs1, d1, ds1, p1, q1, rfl, rfl, rfl, h1, r1⟩ := trodAll_cons r0
  obtain ⟨rfl, rfl, rfl⟩ := trodAll_nil r1
  obtain rfl : args = #[v0, v1] := by cases args; simp_all
  obtain ⟨rfl, rfl⟩ := trodVars_none hV
  obtain ⟨a0, rfl, rfl, rfl, l0⟩ := Go.ChangeMaps.open_string Tryz.underlying9 (hval 0 9 v0 rfl rfl) h0
  have n0 : a0.size ≤ 9223372036854775807 := l0
  obtain ⟨a1, rfl, rfl, rfl, l1⟩ := Go.ChangeMaps.open_string Tryz.underlying9 (hval 1 9 v1 rfl rfl) h1
  have n1 : a1.size ≤ 9223372036854775807 := l1
  clear hA0
  refine (seekPlaces_walk a0 a1 W n0 hE).mono fun e W' ⟨he, bel⟩ => ?_
  subst he
  exact ⟨_, rfl, _, _, _, [], _, [], hW', trodAll_mk1 (shut_bool Tryz.underlying4 _), (trodAll_cons_mk (Go.ChangeMaps.shut_string Tryz.underlying9 l0) (trodAll_cons_mk (Go.ChangeMaps.shut_string Tryz.underlying9 l1) trodAll_mk0)), rfl, bel.frame _, fun h => by cases h⟩

theorem reads (os : Os) {H : Type} (enc : TypeId × Value → H) : ∃ places, DataW.whole enc Tryz.prog ((World.doorLaid Tryz.prog 100 os).forCall (fun _ _ => 0) ⟨#[], #[.string ⟨#[]⟩, .string ⟨#[]⟩], []⟩).memory Tryz.f3.params.toList Rows.seekPlacesSpec.vars false (#[.string ⟨#[]⟩, .string ⟨#[]⟩] : Array Value).toList 8 = some ([.lit (.string []), .lit (.string [])], [], places) :=
  ⟨[], by kernel_rfl⟩

set_option maxRecDepth 100000 in
theorem liftedUpto (os : Os) (started : os.Started) (H : Type) (enc : TypeId × Value → H) (F : Stop.Interp) :
    ReturnsInHanded {} Tryz.checked os 3 .any ((OpenSpec.ofChange Rows.seekPlacesSpec).preRow enc Tryz.prog Tryz.f3 Rows.seekPlacesRow.domain false Rows.seekPlacesRow.laid) (((OpenSpec.ofChange Rows.seekPlacesSpec).at F).post enc Tryz.prog Tryz.f3 false true false false) := by
  obtain ⟨places, hx⟩ := reads os enc
  refine returnsInHanded_of_row (C := Tryz.checked) (s := OpenSpec.ofChange Rows.seekPlacesSpec) own started (by kernel_rfl) Tryz.func3
    (witness_row_atRef (enc := enc) (C := Tryz.checked) false (World.doorLaid Tryz.prog 100 os) #[.string ⟨#[]⟩, .string ⟨#[]⟩] rfl (by kernel_rfl) (by kernel_rfl) (by kernel_rfl)
      (OpenSpec.preRow_of_cond 8 hx (by kernel_rfl) (fun k hk => by cases hk) (by kernel_rfl) (door_metE os _ rfl rfl rfl))) ?_
  intro W base args ds gs before hval hW _ hcond hsz hL _ _
  exact contract H enc W base args ds gs before hval hW hL

theorem saidUpto : Rows.SeekPlacesSaid :=
  OpenClaim.holds_of_cond 3 Tryz.f3 rfl rfl rfl rfl rfl rfl rfl ⟨rfl, rfl, rfl, rfl, rfl⟩ rfl rfl rfl rfl rfl (by kernel_rfl) Tryz.func3 (by kernel_rfl)
    (of_decide_eq_true (by kernel_rfl)) (by unfold Func.isWrapper; first | (rw [if_pos (by decide +kernel)]; kernel_rfl) | (rw [if_neg (by decide +kernel)]; exact ⟨rfl, rfl⟩))
    (fun os started H enc _ F => by rw [OpenClaim.pre_eq_preRow]; exact liftedUpto os started H enc F)

theorem plain (f : FuncId) (fn : Func) (hf : Tryz.pinned.checked.prog.funcNamed "vellum/vellumlaw06.SeekPlaces" = some f) (hfn : Tryz.pinned.checked.prog.funcs[f]? = some fn) :
    true = Tryz.pinned.checked.prog.looks [] ∧ ∀ (j : Nat) t, fn.params[j]? = some t → Tryz.pinned.checked.prog.wantsStandIn t = false := by
  obtain rfl : f = 3 := Option.some.inj ((show Tryz.prog.funcNamed "vellum/vellumlaw06.SeekPlaces" = some 3 by kernel_rfl).symm.trans hf) |>.symm
  obtain rfl : fn = Tryz.f3 := (Option.some.inj (Tryz.func3.symm.trans hfn)).symm
  refine ⟨by kernel_rfl, fun j t ht => ?_⟩
  rw [Tryz.params3] at ht
  have hm := Array.mem_of_getElem? ht
  simp at hm
  rcases hm with rfl
  all_goals first | exact (show Tryz.prog.wantsStandIn _ = false by kernel_rfl)

theorem cardUpto : Rows.SeekPlacesCardSaid :=
  Claim7.holds_tied_plain_at .later [] _ _ _ _ saidUpto (fun _ h => by cases h) (by kernel_rfl) (fun _ h => by cases h) seekPlaces_row_tie rfl ⟨rfl, rfl⟩ (by kernel_rfl) rfl plain (by kernel_rfl)
end Go.Proofs.YtodooppapciegaaGreatDoor.seekPlaces

namespace Go.Proofs.YtodooppapciegaaGreatDoor
/-- SeekPlaces, as its card states it. -/
theorem seekPlaces_card : Rows.SeekPlacesCardSaid := seekPlaces.cardUpto
#print axioms seekPlaces_card
end Go.Proofs.YtodooppapciegaaGreatDoor
