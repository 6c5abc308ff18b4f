/- Package pmem: contentOf. -/
import Derived.Test.YtmgeokmgidnneaaPImg
namespace Go.Proofs.Ytmgeokmgidnneaa
open Go.RowKit Go.Shelf
set_option linter.unusedVariables false

theorem slice_all (g o : Nat) (w : World) : (Instr.sliceAt 67 (.pointer (some ⟨g, o, none⟩)) none none none).run Try.prog w = .ok (.slice (some ⟨g, o, none⟩) 8 8) w := by
  obtain ⟨it, h1, h2⟩ := info_of (t := 5) (n := 1) (by kernel_rfl)
  have hu : Try.prog.underlying 67 = some (.array 8 5) := by kernel_rfl
  simp [Instr.sliceAt, Sem.run_bind, run_underlying hu, Instr.sureAddr, Instr.sliceBounds, sizeOf, typeInfo, h1, Addr.add_mid]
theorem zero_bytes (w : World) : (zeroValue 69).run Try.prog w = .ok (.agg ((List.replicate 64 0).map B8).toArray) w := by
  have h : (Try.prog.info? 69).map (fun i => i.zero) = some (some (.agg ((List.replicate 64 0).map B8).toArray)) := by kernel_rfl
  obtain ⟨i, hi, hz⟩ := Option.map_eq_some_iff.1 h
  simp [zeroValue, typeInfo, hi, hz]
end Go.Proofs.Ytmgeokmgidnneaa
