/- The insertion sort of a part, as the library has it. -/
import Derived.Test.YtjlhohljkedbbaaSoG
import Derived.Test.YtjlhohljkedbbaaShelfS
namespace Go.Proofs.Ytjlhohljkedbbaa.So
open Go.Sort Go.RowKit
set_option linter.unusedVariables false
set_option linter.unusedSimpArgs false
set_option maxRecDepth 1000000
section
variable {blk cap g a b : Nat} {cb : Array Value} {cf : CL → CL → Int} {w w1 : World} {d dk : Array CL}
theorem insR (hS : SWO (ltOf cf)) (eg : ∀ args w, (callFunc g args).run Try.prog w = .ok (.enter g args) w) (hR : Rw w blk d) (hC : CmpLays Try.prog g cb encC 2 cf blk 0 d.size w) (hW : Wd w w1 blk dk) (hs : dk.size = d.size) (h1 : a ≤ b) (h2 : b ≤ d.size) :
    Calls Try.prog 36 #[.slice (some ⟨blk, 0, none⟩) d.size cap, .int .i64 a, .int .i64 b, .func (.func g) #[] cb] w1 fun e w' => e = .returned (.tuple #[]) ∧ ∃ d', Wd w w' blk d' ∧ PermIn a b dk d' ∧ SortedIn (ltOf cf) a b d' := by
  have hR1 := hR.wd hW hs
  have hC1 := hR.cmp hW hs hC
  have hi := insertionSort_holds (lt := ltOf cf) hS dk a b h1 (by omega)
  rw [← hs]
  refine (AnyQ.insertionSortCmpFunc Try.insF 2 agC zeC encC encL encO cf g cb blk 0 cap a b dk w1 eg hC1 hR1.holds hR1.lt h1 (by omega) (by have := hR1.few; omega)).mono fun e w' h => ⟨h.1, ?_⟩
  obtain ⟨n, os, e1⟩ := h.2
  exact ⟨_, hW.trans hR ⟨n, os, e1⟩ hi.1.1.symm, hi.1, hi.2⟩
end
end Go.Proofs.Ytjlhohljkedbbaa.So
