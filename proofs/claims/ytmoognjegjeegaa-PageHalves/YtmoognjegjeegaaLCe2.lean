/- The law's own reading of bytes as a page: cells, where the head is right. -/
import Derived.Test.YtmoognjegjeegaaLCel
import Derived.BigRegion
namespace Go.Proofs.Ytmoognjegjeegaa
open Go.RowKit
set_option linter.unusedVariables false
set_option linter.unusedSimpArgs false
set_option maxRecDepth 100000

/-- What the law's cells answers of bytes with a right head. -/
structure LA (w' : World) (e : Ending) (s : List UInt8) : Prop where
  ex : ∃ v, e = .returned (.tuple #[v, .bool (allB s)]) ∧ (allB s = true → LC w' v s)
theorem LA.no {w' : World} {s : List UInt8} (h : allB s = false) : LA w' (.returned (.tuple #[.slice none 0 0, .bool false])) s := ⟨⟨_, by rw [h], fun e => by rw [h] at e; cases e⟩⟩
theorem cell_ext (p : ByteArray) (x : Nat) : p.extract (x + 2) (x + 2 + g (bts p) x) = (cellAt (bts p) x).k ∧ p.extract (x + 2 + g (bts p) x) (x + 2 + g (bts p) x + g (bts p) (x + 1)) = (cellAt (bts p) x).v := by
  refine ⟨?_, ?_⟩
  · rw [extract_seg, Nat.add_sub_cancel_left]; rfl
  · rw [extract_seg, Nat.add_sub_cancel_left]; rfl
end Go.Proofs.Ytmoognjegjeegaa
