/- The law's own past: note. -/
import Derived.Test.YtjlhohljkedbbaaPaG
import Derived.Deep.RegionLaw
namespace Go.Proofs.Ytjlhohljkedbbaa.Pa
open Go.RowKit Gm
set_option linter.unusedVariables false
set_option linter.unusedSimpArgs false
set_option maxRecDepth 100000
theorem elS : El 61 9 1 (.string ⟨#[]⟩) := ⟨Try.underlying61, by
  obtain ⟨i, h1, h2, h3, h4⟩ := info_parts (show (Try.prog.info? 9).map (fun i => (i.zero, i.size, i.bytes)) = some (some (.string ⟨#[]⟩), 1, 16) by kernel_rfl)
  exact ⟨i, h1, h2, h3, by omega⟩, rfl, by omega⟩
theorem bS (k : ByteArray) (w : World) : (Instr.buildSlice 61 1 #[(0, .string k)]).run Try.prog w = .ok (.slice (some ⟨w.heap.size, 0, none⟩) 1 1) (w.alloc (.cells #[.string k] 9)) := by kernel_rfl
section
variable {W W' : Nat → Prop} {w w' : World} {pb : Nat} {v : Value} {L : List Gv} {P : List Gn} {r : Rc} {I T : Value}
end
end Go.Proofs.Ytjlhohljkedbbaa.Pa
