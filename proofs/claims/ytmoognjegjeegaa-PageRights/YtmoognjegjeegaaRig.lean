/- The walk of PageRights, of whatever bytes. -/
import Derived.Test.YtmoognjegjeegaaRigA
import Derived.Test.YtmoognjegjeegaaRigB
namespace Go.Proofs.Ytmoognjegjeegaa
open Go.RowKit
theorem rights_walk (w : World) (p x : ByteArray) (i : Int) (hz : p.size ≤ 140737488351232) : Calls Try.prog 3 #[.string p, .string x, .int .i64 i] w fun e w' => e = .returned (.bool true) ∧ Below w.heap.size w w' := by
  by_cases h : Right (bts p)
  · by_cases hk : g (bts p) 0 = 0
    · exact rights_A w p x i h hk
    · exact rights_B w p x i h hk
  · exact rights_wrong w p x i hz h
end Go.Proofs.Ytmoognjegjeegaa
